/-
  hasTwice over slices.Values and over texts: two that are equal.
-/
import Derived.Test.YtgehgccgologpaaZj
import Derived.Test.YtgehgccgologpaaWr
namespace Go.Proofs.Ytgehgccgologpaa.Z
open Go.RowKit Go.Shelf Go.Maps Go.WideMaps Go.Proofs.Ytgehgccgologpaa Go.Proofs.Ytgehgccgologpaa.R Go.Proofs.Ytgehgccgologpaa.T
attribute [local go_sem] Oper.semAt_some

abbrev sEnc (s : ByteArray) : Array Value := #[.string s]
/-- an iterator that hands over ks -/
abbrev SeqK (n n0 B : Nat) (g : Nat) (lb : Array Value) (ks : List ByteArray) (w : World) : Prop :=
  SeqLow Fence.wide n Try.prog g lb sEnc (Kp n0 B) (fun s _ => s ∈ ks) (fun xs => xs = ks) (fun pre => ∃ r, pre ++ r = ks) (ks.length + 1) w
theorem take_one (ks : List ByteArray) (k : Nat) (h : k < ks.length) : ks.take (k + 1) = ks.take k ++ [ks[k]] := List.take_succ_eq_append_getElem h
set_option maxRecDepth 8000 in
set_option maxHeartbeats 1000000 in
theorem values_seq (n Bn n0 B : Nat) (ks : List ByteArray) (A : Option Addr) (c : Nat) (w : World) (hn : n0 ≤ w.heap.size) (hBn : Bn < w.heap.size) (hks : StrsB w n0 A ks) (hc : w.cell? ⟨Bn, 0, none⟩ = some (.slice A ks.length c)) (hl : ks.length ≤ 4194304) :
    SeqK n n0 B 68 #[.pointer (some ⟨Bn, 0, none⟩)] ks w := by
  intro lk J Jx W hW hJ hJx hY h0
  have c0 := (hW.cell (p := ⟨Bn, 0, none⟩) hBn).trans hc
  have HKS := Lib.hid (hks.to (hW.mono hn) (Nat.le_refl _))
  have hli : (ks.length : Int) ≤ 4194304 := by omega
  have HJ0 := Lib.hid h0
  clear hW hn hBn hks hc hl h0
  simp only [List.append_toArray, List.cons_append, List.nil_append]
  refine callsIn_of_wp Try.func68 rfl trivial ?_ rfl
  simp only [Try.ntmps68, List.size_toArray, List.length_cons, List.length_nil, Nat.reduceAdd, Nat.reduceSub, Array.replicate_succ, Array.replicate_zero, List.push_toArray, List.append_toArray, List.nil_append, List.cons_append]
  gi_wp2_with fail
  clear c0
  gi_loopw [7] (fun i wr => ∃ k : Nat, k ≤ ks.length ∧ i = .int .i64 k ∧ Hid (J (ks.take k) wr) ∧ Hid (Below n0 W wr)) (fun i _ => ks.length - (intOf i).toNat)
  case atStart => exact ⟨0, Nat.zero_le _, rfl, HJ0, Lib.hid (Below.refl _ _)⟩
  case round =>
    obtain ⟨k, hk, rfl, hj, hb⟩ := hrel
    by_cases hlt : k < ks.length
    · obtain ⟨g, o, rfl, hg, hcell⟩ := (HKS.out.to hb.out (Nat.le_refl _)).at_ hlt
      have HT := Lib.hid (take_one ks k hlt)
      obtain ⟨fn, tmps, assign, body, hyy, hR⟩ := hY (ks.take k) ks[k] wr hj.out (List.getElem_mem hlt) (by rw [List.length_take]; omega)
      dsimp only [sEnc] at hyy
      generalize ks[k] = y at *
      gi_wp2_with fail
      refine ⟨(fun h => by cases h), hR.mono ?_⟩
      rintro e W4 (⟨rfl, hJ4, hk4⟩ | ⟨rfl, hJx4⟩)
      · have HJ4 := Lib.hid hJ4
        have HB4 := Lib.hid (hb.out.trans hk4.below)
        clear hJ4 hk4 hyy hR hcell
        gi_wp2_with fail
        go_roundw
        case rel => exact ⟨k + 1, hlt, by go_num, by rw [HT.out]; exact HJ4, HB4⟩
        case measure => simp [intOf]; omega
      · have HJ4 := Lib.hid hJx4
        clear hJx4 hyy hR hcell
        gi_wp2_with fail
        refine bodyPost_ret (results_none rfl _ _ _) rfl ?_
        exact ⟨⟨_, rfl⟩, .inr ⟨ks.take k ++ [y], ⟨ks.drop (k + 1), by rw [← HT.out, List.take_append_drop]⟩, HJ4.out⟩⟩
    · obtain rfl : k = ks.length := by omega
      have hjj := hj.out
      rw [List.take_length] at hjj
      have HJJ := Lib.hid hjj
      clear hjj
      gi_wp2_with fail
      go_end0
      exact ⟨⟨_, rfl⟩, .inl ⟨ks, rfl, HJJ.out⟩⟩
set_option maxRecDepth 8000 in
set_option maxHeartbeats 1000000 in
theorem texts_seq (n Bn n0 B : Nat) (l : List V) (A : Option Addr) (c : Nat) (w : World) (hn : n0 ≤ w.heap.size) (hBn : Bn < w.heap.size) (hrow : RowB w n0 A l) (hc : w.cell? ⟨Bn, 0, none⟩ = some (.slice A l.length c)) (hl : l.length ≤ 4194304) :
    SeqK n n0 B 69 #[.pointer (some ⟨Bn, 0, none⟩)] (l.map V.s) w := by
  intro lk J Jx W hW hJ hJx hY h0
  have c0 := (hW.cell (p := ⟨Bn, 0, none⟩) hBn).trans hc
  have HKS := Lib.hid (hrow.to (hW.mono hn) (Nat.le_refl _))
  have hli : (l.length : Int) ≤ 4194304 := by omega
  have HJ0 := Lib.hid h0
  have HNW : Hid (n0 ≤ W.heap.size) := Nat.le_trans hn hW.size
  clear hW hn hBn hrow hc hl h0
  simp only [List.append_toArray, List.cons_append, List.nil_append]
  refine callsIn_of_wp Try.func69 rfl trivial ?_ rfl
  simp only [Try.ntmps69, List.size_toArray, List.length_cons, List.length_nil, Nat.reduceAdd, Nat.reduceSub, Array.replicate_succ, Array.replicate_zero, List.push_toArray, List.append_toArray, List.nil_append, List.cons_append]
  gi_wp2_with fail
  clear c0
  gi_loopw [7] (fun i wr => ∃ k : Nat, k ≤ l.length ∧ i = .int .i64 k ∧ Hid (J ((l.map V.s).take k) wr) ∧ Hid (Below n0 W wr) ∧ Hid (W.heap.size ≤ wr.heap.size)) (fun i _ => l.length - (intOf i).toNat)
  case atStart => exact ⟨0, Nat.zero_le _, rfl, HJ0, Lib.hid (Below.refl _ _), Lib.hid (Nat.le_refl _)⟩
  case round =>
    obtain ⟨k, hk, rfl, hj, hb, hsz⟩ := hrel
    by_cases hlt : k < l.length
    · obtain ⟨g, o, rfl, hg, y, hat, hy⟩ := (HKS.out.to hb.out (Nat.le_refl _)).at_ hlt
      have hlm : k < (l.map V.s).length := by rw [List.length_map]; exact hlt
      have HT := Lib.hid (take_one (l.map V.s) k hlm)
      have hs : (l.map V.s)[k] = l[k].s := List.getElem_map ..
      obtain ⟨xk, xnm, xn, xs, xka, xkn, xkc, xla, xln, xlc⟩ := y
      have hxs : xs = l[k].s := ((isB_iff _ _ _ _).1 hy).1.2.2.2
      rw [hs] at HT
      have hbA := below_alloc wr (.cells #[.int .i64 xk, .string xnm, .int .i64 xn, .string xs, .slice xka xkn xkc, .slice xla xln xlc] 25)
      have hjA := hJ _ _ _ hj.out (hbA.mono hsz.out)
      have hmem : l[k].s ∈ l.map V.s := List.mem_map.2 ⟨_, List.getElem_mem hlt, rfl⟩
      obtain ⟨fn, tmps, assign, body, hyy, hR⟩ := hY ((l.map V.s).take k) l[k].s _ hjA hmem (by rw [List.length_take]; omega)
      obtain ⟨e0, e1, e2, e3, e4, e5⟩ := hat.six
      have HBA := Lib.hid (hb.out.trans (hbA.mono (Nat.le_trans HNW.out hsz.out)))
      have HSA := Lib.hid (Nat.le_trans hsz.out hbA.size)
      dsimp only [sEnc] at hyy
      clear hat hy hbA hjA hmem hs
      generalize l[k].s = z at *
      subst hxs
      gi_wp2_with fail
      refine ⟨(fun h => by cases h), hR.mono ?_⟩
      rintro e W4 (⟨rfl, hJ4, hk4⟩ | ⟨rfl, hJx4⟩)
      · have HJ4 := Lib.hid hJ4
        have HB4 := Lib.hid (HBA.out.trans hk4.below)
        have HS4 := Lib.hid (Nat.le_trans HSA.out hk4.below.size)
        clear hJ4 hk4 hyy hR e0 e1 e2 e3 e4 e5
        gi_wp2_with fail
        go_roundw
        case rel => exact ⟨k + 1, hlt, by go_num, by rw [HT.out]; exact HJ4, HB4, HS4⟩
        case measure => simp [intOf]; omega
      · have HJ4 := Lib.hid hJx4
        clear hJx4 hyy hR e0 e1 e2 e3 e4 e5
        gi_wp2_with fail
        refine bodyPost_ret (results_none rfl _ _ _) rfl ?_
        exact ⟨⟨_, rfl⟩, .inr ⟨(l.map V.s).take k ++ [xs], ⟨(l.map V.s).drop (k + 1), by rw [← HT.out, List.take_append_drop]⟩, HJ4.out⟩⟩
    · obtain rfl : k = l.length := by omega
      have hjj := hj.out
      rw [List.take_of_length_le (by rw [List.length_map]; exact Nat.le_refl _)] at hjj
      have HJJ := Lib.hid hjj
      clear hjj
      gi_wp2_with fail
      go_end0
      exact ⟨⟨_, rfl⟩, .inl ⟨l.map V.s, rfl, HJJ.out⟩⟩
/-- what hasTwice's loop keeps -/
structure It2 (w : World) (pre : List ByteArray) (W : World) : Prop where
  rc : W.cell? ⟨w.heap.size, 0, none⟩ = some (.bool false)
  rf : W.frozen? ⟨w.heap.size, 0, none⟩ = false
  mp : W.cell? ⟨w.heap.size + 2, 0, none⟩ = some (.map (some (w.heap.size + 1)))
  om : W.ownsMap Try.prog 9 (unitElem (H := Unit)) (w.heap.size + 1) pre.length (setB pre)
  nd : pre.Nodup
  bl : Below w.heap.size w W
theorem It2.low {w : World} {C : Nat} (hC : w.heap.size + 3 ≤ C) {pre : List ByteArray} {W W' : World} (h : It2 w pre W) (hf : Below C W W') : It2 w pre W' := by
  obtain ⟨es, clock, h5, F, h6, hD⟩ := h.om
  exact ⟨(hf.cell (p := ⟨w.heap.size, 0, none⟩) (by show w.heap.size < C; omega)).trans h.rc, (hf.frozen (p := ⟨w.heap.size, 0, none⟩) (by show w.heap.size < C; omega)).trans h.rf, (hf.cell (p := ⟨w.heap.size + 2, 0, none⟩) (by show w.heap.size + 2 < C; omega)).trans h.mp,
    ⟨es, clock, (hf.block _ (by omega)).trans h5, F, h6, hD⟩, h.nd, h.bl.trans (hf.mono (by omega))⟩
theorem it2_start (w : World) : ∃ W0, ((w.alloc (.cells #[.bool false] 4)).alloc (.map #[] 0)).alloc (.cells #[.map (some (w.heap.size + 1))] 48) = W0 ∧ W0.heap.size = w.heap.size + 3 ∧ It2 w [] W0 := by
  obtain ⟨W0, hW0⟩ : ∃ W0, ((w.alloc (.cells #[.bool false] 4)).alloc (.map #[] 0)).alloc (.cells #[.map (some (w.heap.size + 1))] 48) = W0 := ⟨_, rfl⟩
  have h0 : W0.heap[w.heap.size]? = some (.cells #[.bool false] 4) := by
    rw [← hW0]
    show (((w.heap.push _).push _).push _)[w.heap.size]? = _
    rw [Array.getElem?_push, if_neg (by simp; omega), Array.getElem?_push, if_neg (by simp), Array.getElem?_push, if_pos rfl]
  have h1 : W0.heap[w.heap.size + 1]? = some (.map #[] 0) := by
    rw [← hW0]
    show (((w.heap.push _).push _).push _)[w.heap.size + 1]? = _
    rw [Array.getElem?_push, if_neg (by simp), Array.getElem?_push, if_pos (by simp)]
  have h2 : W0.heap[w.heap.size + 2]? = some (.cells #[.map (some (w.heap.size + 1))] 48) := by
    rw [← hW0]
    show (((w.heap.push _).push _).push _)[w.heap.size + 2]? = _
    rw [Array.getElem?_push, if_pos (by simp)]
  refine ⟨W0, hW0, by rw [← hW0]; simp, ⟨by simp [World.cell?, h0], by simp [World.frozen?, h0], by simp [World.cell?, h2], ?_, List.nodup_nil, ?_⟩⟩
  · obtain ⟨es, clock, h5, F, h6, hD⟩ := World.ownsMap_made (H := Unit) w Try.prog 9 unitElem
    have : (w.alloc (.map #[] 0)).heap[w.heap.size]? = some (.map #[] 0) := World.alloc_heap_new w _
    rw [this] at h5
    cases h5
    exact ⟨#[], 0, h1, F, h6, hD⟩
  · rw [← hW0]
    exact ((below_alloc w _).alloc (by simp) _).alloc (by simp; omega) _
set_option maxRecDepth 8000 in
set_option maxHeartbeats 2000000 in
theorem hasTwice_of (gf : Nat) (hgf : Ent gf) (lb : Array Value) (ks : List ByteArray) (w : World) (hks : ∀ s ∈ ks, s.size ≤ 4194304) (hl : ks.length ≤ 4194304)
    (hseq : ∀ W0, Below w.heap.size w W0 → SeqK 8 w.heap.size w.heap.size gf lb ks W0) :
    Calls Try.prog 44 #[.func (.func gf) #[] lb] w (AnsB w (dup ks)) := by
  have HT := Lib.hid (it2_start w)
  have HSQ := Lib.hid hseq
  have HKS := Lib.hid hks
  have HL := Lib.hid hl
  have hmm := @run_makeMap Try.prog
  clear hseq hks hl
  refine (callsIn_wide (n := 9)).1 ?_
  refine callsIn_of_wp_marks Try.func44 rfl trivial ?_ rfl
  simp only [Try.ntmps44, List.size_toArray, List.length_cons, List.length_nil, Nat.reduceAdd, Nat.reduceSub, Array.replicate_succ, Array.replicate_zero, List.push_toArray, List.append_toArray, List.nil_append, List.cons_append]
  gi_wp2_with fail
  obtain ⟨W0, hW0, hz, hit⟩ := HT.out
  rw [hW0]
  have HIT := Lib.hid hit
  have HZ := Lib.hid hz
  clear hW0 HT hmm
  refine range_low rfl (by omega) (gf := gf) (lb := lb) rfl trivial hgf (HSQ.out W0 hit.bl)
    (fun _ _ _ h _ => h) (fun h k => h.trans k) (fun W lk o o' hl h hc hw => Kp.turn (by omega) W lk o o' hl h hc hw) (Below.refl _ _) (fun _ => rfl)
    (fun pre W => It2 w pre W) (fun c pre W => c = .ret ∧ W.cell? ⟨w.heap.size, 0, none⟩ = some (.bool true) ∧ ¬ pre.Nodup ∧ Below w.heap.size w W)
    (fun _ _ _ h k => h.low (by omega) k) (fun c _ _ _ h k => ⟨h.1, (k.cell (p := ⟨w.heap.size, 0, none⟩) (by show w.heap.size < W0.heap.size; omega)).trans h.2.1, h.2.2.1, h.2.2.2.trans (k.mono (by omega))⟩) HIT.out
    (fun x => { tmps := #[.func (.func gf) #[] lb, undef, .pointer (some ⟨w.heap.size, 0, none⟩), .pointer (some ⟨w.heap.size + 1 + 1, 0, none⟩), .string x, undef, undef, .map (some (w.heap.size + 1)), .func (.func gf) #[] lb, .string x, undef, undef, undef, undef, undef, undef, undef, undef, undef, undef], defers := [] }) ?assign ?body ?done ?stop
  case assign =>
    intro lk x W C hC
    gi_wp2
    exact hC
  case body =>
    rintro lk pre x W hI hx hlt
    have hI : It2 w pre W := hI
    have hkey := key_of x (HKS.out x hx)
    have hz0 : ∀ w : World, (zeroValue 49).run Try.prog w = .ok (.agg #[]) w := fun w => by kernel_rfl
    have HH := Lib.hid (setB_has pre x)
    have hws : w.heap.size + 3 ≤ W.heap.size := by
      have h1 := hI.om.lt
      obtain ⟨u, hu, -⟩ := cells_of_cell hI.mp
      have h2 : w.heap.size + 2 < W.heap.size := (Array.getElem?_eq_some_iff.1 hu).1
      omega
    have hbA := below_alloc W (.cells #[] 49)
    have hIA := hI.low hws hbA
    have m0 : W.cell? ⟨w.heap.size + 1 + 1, 0, none⟩ = some (.map (some (w.heap.size + 1))) := hI.mp
    have m1 : (W.alloc (.cells #[] 49)).cell? ⟨w.heap.size + 1 + 1, 0, none⟩ = some (.map (some (w.heap.size + 1))) := hIA.mp
    have r1 := hIA.rc
    have r2 := hIA.rf
    have HNO := Lib.hid hI.om
    have HND := Lib.hid hI.nd
    have HIA := Lib.hid hIA
    have HBA := Lib.hid hbA
    have HWS := Lib.hid hws
    have HLT : Hid (pre.length ≤ 4194304) := by
      show pre.length ≤ 4194304
      have := HL.out
      omega
    clear hI hIA hbA hz hws hlt hit hx
    cases hh : hasB pre x with
    | true =>
      rw [hh] at HH
      have HN : Hid (¬ (pre ++ [x]).Nodup) := fun e => (List.nodup_append.1 e).2.2 x ((hasB_iff _ _).1 hh) x (by simp) rfl
      clear hh
      gi_wp2_with (gi_at_lookup; refine wpListIn_lookup_own_unit _ rfl _ _ 48 rfl 9 49 lawS Try.underlying48 (hz0 _) (w.heap.size + 1) _ _ rfl HNO.out _ _ rfl hkey ?_; rw [HH.out])
      refine ⟨(kf_low HBA.out).trans ((KeepsOthers.setCell _ _ _).from _), rfl, World.cell?_setCell_same _ _ _ HIA.out.rc, HN.out, HIA.out.bl.setCell (p := ⟨w.heap.size, 0, none⟩) (Nat.le_refl _) _⟩
    | false =>
      rw [hh] at HH
      have HN : Hid ((pre ++ [x]).Nodup) := List.nodup_append.2 ⟨HND.out, by simp, fun a ha b hb e => by simp at hb; subst hb; subst e; rw [(hasB_iff _ _).2 ha] at hh; cases hh⟩
      clear hh
      gi_wp2_with (first
        | (gi_at_lookup; refine wpListIn_lookup_own_unit _ rfl _ _ 48 rfl 9 49 lawS Try.underlying48 (hz0 _) (w.heap.size + 1) _ _ rfl HNO.out _ _ rfl hkey ?_; rw [HH.out])
        | (gi_at_mapUpdate; refine wpListIn_mapUpdate_own _ rfl _ _ _ 48 rfl 9 49 lawS Try.underlying48 unitElem (w.heap.size + 1) _ _ rfl (HNO.out.alloc _) (by have := HLT.out; unfold maxLen; omega) _ _ _ rfl rfl hkey _ [] unitElem_mk ?_; intro wm hom hgm))
      obtain ⟨ob, hob, hobc⟩ : ∃ ob : Obj, (W.alloc (.cells #[] 49)).heap[w.heap.size + 1]? = some ob ∧ ob.isCells = false := by
        obtain ⟨es, clock, h5, -⟩ := HIA.out.om
        exact ⟨_, h5, rfl⟩
      have hcc : ∀ k, (∃ o : Obj, (W.alloc (.cells #[] 49)).heap[k]? = some o ∧ o.isCells = true) → wm.heap[k]? = (W.alloc (.cells #[] 49)).heap[k]? := fun k ⟨o, h1, h2⟩ => hgm.block k (Array.getElem?_eq_some_iff.1 h1).1 fun e => by
        cases e
        rw [hob] at h1
        cases h1
        rw [hobc] at h2
        cases h2
      have hblm : Below w.heap.size (W.alloc (.cells #[] 49)) wm := grownN hgm (by have := HWS.out; simp; omega) fun k hk => by cases hk; omega
      have hz2 := HZ.out
      refine ⟨(kf_low HBA.out).trans (KeepsFrom.of_grownBy hgm fun j hj => by cases hj; omega), ⟨(HBA.out.mono (by have := HWS.out; omega)).trans hblm, fun k o _ hk hc => ?_⟩,
        ⟨(World.cell?_of_block (a := ⟨w.heap.size, 0, none⟩) (hcc _ (cells_of_cell HIA.out.rc))).trans HIA.out.rc, (World.frozen?_of_block (a := ⟨w.heap.size, 0, none⟩) (hcc _ (cells_of_cell HIA.out.rc))).trans HIA.out.rf,
          (World.cell?_of_block (a := ⟨w.heap.size + 2, 0, none⟩) (hcc _ (cells_of_cell HIA.out.mp))).trans HIA.out.mp, ?_, HN.out, HIA.out.bl.trans hblm⟩⟩
      · have h1 : (W.alloc (.cells #[] 49)).heap[k]? = some o := (HBA.out.block k (Array.getElem?_eq_some_iff.1 hk).1).trans hk
        exact (hcc k ⟨o, h1, hc⟩).trans h1
      · rw [List.length_append, List.length_singleton, ← setB_put]
        exact hom
  case done =>
    rintro D xs W hD hS hI hK
    have hI : It2 w xs W := hI
    have hS : xs = ks := hS
    subst hS
    have HV : Hid (dup xs = false) := by
      show dup xs = false
      unfold dup
      rw [decide_eq_true hI.nd]
      rfl
    have r1 := hI.rc
    have r2 := hI.rf
    have HIT := Lib.hid hI
    have HDD : Hid (w.heap.size + 3 ≤ D) := by
      show w.heap.size + 3 ≤ D
      omega
    clear hI hD hz hit
    gi_wp2
    have hbs : Below w.heap.size w (W.setCell ⟨w.heap.size, 0, none⟩ (.bool false)) := HIT.out.bl.setCell (p := ⟨w.heap.size, 0, none⟩) (Nat.le_refl _) _
    have hK3 := (KeepsOthers.setCell W ⟨w.heap.size, 0, none⟩ (.bool false)).same D _ hK rfl
    have hc3 : (W.setCell ⟨w.heap.size, 0, none⟩ (.bool false)).cell? ⟨w.heap.size, 0, none⟩ = some (.bool false) := World.cell?_setCell_same _ _ _ HIT.out.rc
    have hc4 : ((W.setCell ⟨w.heap.size, 0, none⟩ (.bool false)).putObj D (.deferred none)).cell? ⟨w.heap.size, 0, none⟩ = some (.bool false) := ((below_put (C := w.heap.size + 3) _ D _ _ HDD.out hK3).cell (p := ⟨w.heap.size, 0, none⟩) (by show w.heap.size < w.heap.size + 3; omega)).trans hc3
    refine ⟨by simp, .inl ⟨_, _, rfl, run_takeDeferred hK3, ?_⟩⟩
    refine ⟨.bool false, by simp [results, Try.f44, go_sem, hc4], by rw [HV.out], hbs.trans (below_put _ D _ _ (by have := HDD.out; omega) hK3)⟩
  case stop =>
    rintro D c pre W hD ⟨r, rfl⟩ ⟨rfl, hc, hn, hb⟩ hK
    have HV : Hid (dup (pre ++ r) = true) := by
      show dup (pre ++ r) = true
      unfold dup
      rw [decide_eq_false (fun e => hn (List.nodup_append.1 e).1)]
      rfl
    have HC := Lib.hid hc
    have HB := Lib.hid hb
    have HDD : Hid (w.heap.size + 3 ≤ D) := by
      show w.heap.size + 3 ≤ D
      omega
    clear hb hn hc hD hz hit
    gi_wp2
    have hc4 : (W.putObj D (.deferred none)).cell? ⟨w.heap.size, 0, none⟩ = some (.bool true) := ((below_put (C := w.heap.size + 3) _ D _ _ HDD.out hK).cell (p := ⟨w.heap.size, 0, none⟩) (by show w.heap.size < w.heap.size + 3; omega)).trans HC.out
    refine ⟨by simp, .inl ⟨_, _, rfl, run_takeDeferred hK, ?_⟩⟩
    refine ⟨.bool true, by simp [results, Try.f44, go_sem, hc4], by rw [HV.out], HB.out.trans (below_put _ D _ _ (by have := HDD.out; omega) hK)⟩
end Go.Proofs.Ytgehgccgologpaa.Z
