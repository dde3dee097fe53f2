/-
  Array, by contract. (gen_rr.py)
-/
import Derived.Test.YtcahijpbkjplmaaGreatDoorMRq
namespace Go.Proofs.YtcahijpbkjplmaaGreatDoor.G
open Go.RowKit Go.Shelf Go.Maps Go.Lib Go.Proofs.YtcahijpbkjplmaaGreatDoor

/-- a row of values -/
def Vls (w : World) (sl : Value) (l : List Vl) (bk : Nat) : Prop := ∃ A c, sl = .slice A l.length c ∧ ∀ j v, l[j]? = some v → ∃ q, A = some ⟨bk, q, none⟩ ∧ w.cell? ⟨bk, q + j * 3, none⟩ = some (.int .i64 v.k) ∧ w.cell? ⟨bk, q + j * 3 + 1, none⟩ = some (.int .i64 v.n) ∧ w.cell? ⟨bk, q + j * 3 + 2, none⟩ = some (.string v.s)
theorem Vls.fr {w w' : World} {sl : Value} {l : List Vl} {bk : Nat} (h : Vls w sl l bk) (hb : w'.heap[bk]? = w.heap[bk]?) : Vls w' sl l bk := by
  obtain ⟨A, c, e, h⟩ := h
  refine ⟨A, c, e, fun j v hj => ?_⟩
  obtain ⟨q, e1, e2, e3, e4⟩ := h j v hj
  exact ⟨q, e1, (World.cell?_of_block (a := ⟨bk, _, none⟩) hb).trans e2, (World.cell?_of_block (a := ⟨bk, _, none⟩) hb).trans e3, (World.cell?_of_block (a := ⟨bk, _, none⟩) hb).trans e4⟩
def pre (l : List Vl) (j : Nat) : List Pr := (l.take j).mapIdx fun i x => (⟨dx i, x, true, true, true⟩ : Pr)
/-- an Array of the first j -/
def arrO (H : Hs) (v : Vl) (l : List Vl) (j : Nat) : Ob := ⟨AR, H.at v, pre l j, false, j, true⟩
def arrH (H : Hs) (v : Vl) (l : List Vl) (j : Nat) : Hs := { os := H.os ++ [arrO H v l j], most := H.most, n := H.n + (j + 1) }
theorem pre_len (l : List Vl) {j : Nat} (hj : j ≤ l.length) : (pre l j).length = j := by
  unfold pre
  rw [List.length_mapIdx, List.length_take]
  omega
theorem pre_next (l : List Vl) {j : Nat} (hj : j < l.length) : pre l (j + 1) = pre l j ++ [⟨dx j, l[j], true, true, true⟩] := by
  unfold pre
  rw [List.take_succ_eq_append_getElem hj, List.mapIdx_append, List.mapIdx_cons, List.mapIdx_nil, List.length_take, Nat.min_eq_left (Nat.le_of_lt hj), Nat.zero_add]
theorem pre_no (l : List Vl) (j : Nat) : (pre l j).findIdx? (has (dx j)) = none := by
  rw [List.findIdx?_eq_none_iff]
  intro p hp
  unfold pre at hp
  rw [List.mem_mapIdx] at hp
  obtain ⟨i, hi, rfl⟩ := hp
  have hij : i < j := by
    rw [List.length_take] at hi
    omega
  exact decide_eq_false fun e => by
    have := dx_inj e
    omega
theorem arr_gd {H : Hs} (g : Gd H) (v : Vl) {l : List Vl} (hl : ∀ x ∈ l, Sv x) {j : Nat} (hj : j ≤ l.length) (h1 : l.length ≤ 1000) (h2 : H.n + (l.length + 1) ≤ H.most) : Gd (arrH H v l j) := by
  have hlen : (l.take j).length = j := by rw [List.length_take]; omega
  have := gd_array g v (l := l.take j) (fun x hx => hl x (List.mem_of_mem_take hx))
  unfold Hs.array at this
  rw [hlen, if_neg (by omega)] at this
  exact this
theorem arr_add {H : Hs} (v : Vl) {l : List Vl} {j : Nat} (hj : j < l.length) (h1 : l.length ≤ 1000) (h2 : H.n + (l.length + 1) ≤ H.most) :
    (arrH H v l j).add ix AR H.os.length (arrO H v l j) ⟨dx j, l[j], true, true, true⟩ = (arrH H v l (j + 1), 0) := by
  have hix : ix (dx j) = some j := ix_dx j (by omega)
  have hia : (arrO H v l j).ixA ix AR (dx j) = some j := by
    unfold Ob.ixA
    exact (if_pos rfl).trans hix
  have hbar : (arrO H v l j).bar ix AR (dx j) = 0 := by
    unfold Ob.bar
    rw [hia]
    show (if false = true then (110 : Int) else if 1000 ≤ j then 100 else if j ≤ j ∧ true = false then 110 else 0) = 0
    rw [if_neg (by simp), if_neg (by omega), if_neg (by simp)]
  unfold Hs.add
  rw [show Pr.key ⟨dx j, l[j], true, true, true⟩ = dx j from rfl, hbar, if_neg (by decide), if_neg (by show ¬ H.most ≤ H.n + (j + 1); omega)]
  have hmore : (arrO H v l j).more ix AR ⟨dx j, l[j], true, true, true⟩ = arrO H v l (j + 1) := by
    unfold Ob.more
    rw [show Pr.key ⟨dx j, l[j], true, true, true⟩ = dx j from rfl, hia]
    unfold arrO
    simp only [pre_next l hj, Ob.mk.injEq, true_and, and_true]
    omega
  rw [hmore]
  simp only [arrH, Hs.set, Prod.mk.injEq, and_true, Hs.mk.injEq, true_and]
  refine ⟨?_, by omega⟩
  rw [List.set_append_right _ _ (Nat.le_refl _), Nat.sub_self]
  rfl
theorem array_yes {H : Hs} (v : Vl) {l : List Vl} (h1 : l.length ≤ 1000) (h2 : H.n + (l.length + 1) ≤ H.most) : H.array dx AR v l = (arrH H v l l.length, some H.os.length) := by
  unfold Hs.array
  rw [if_neg (by omega)]
  unfold arrH arrO pre
  rw [List.take_length]
theorem array_no {H : Hs} (v : Vl) {l : List Vl} (h : 1000 < l.length ∨ H.most < H.n + (l.length + 1)) : H.array dx AR v l = (H, none) := by
  unfold Hs.array
  rw [if_pos h]
theorem AR_is : AR = ⟨#[65, 114, 114, 97, 121]⟩ := rfl
section
variable {w w1 w2 : World} {ow ow1 ow2 : Nat → Option Nat} {i A : Nat} {H H1 H2 : Hs} {L L1 L2 : List OL} {o o1 : Ob} {x : OL} {p : Pr}
theorem Hch.aside (h : Hch w A ow L H1 w1 ow1 L1) {P : Nat} (hP : ow1 P = none) (hw : w.heap.size ≤ P) (f : Fr (fun k => k ≠ P) w1 w2) : Hch w A ow L H1 w2 ow1 L1 :=
  ⟨h.ph.keep f fun k hk e => hk (by rw [e]; exact hP), h.new, h.fr.trans (f.mono fun k hk => by have := hk.1; omega), h.lb⟩
theorem Hch.out (h : Hch w A ow L H1 w1 ow1 L1) {k : Nat} (h1 : k < w.heap.size) (h2 : ow k = none) : ow1 k = none := by
  cases e : ow1 k with
  | none => rfl
  | some r =>
    rcases h.new k (by rw [e]; simp) with e2 | e2
    · exact absurd h2 e2
    · omega
theorem Hch.kept (h : Hch w A ow L H1 w1 ow1 L1) {k : Nat} (h1 : k < w.heap.size) (h2 : ow k = none) : w1.heap[k]? = w.heap[k]? := h.fr.block k ⟨h1, h2⟩
theorem Hch.nth (h : Hch w A ow L H1 w1 ow1 L1) {x : OL} (hx : L[i]? = some x) : ∃ x', L1[i]? = some x' ∧ x'.b = x.b := by
  obtain ⟨l, hl⟩ := h.lb
  have h1 : (L1.map (·.b))[i]? = some x.b := by
    rw [hl, List.getElem?_append_left (by rw [List.length_map]; exact (List.getElem?_eq_some_iff.1 hx).1), List.getElem?_map, hx]
    rfl
  rw [List.getElem?_map] at h1
  exact Option.map_eq_some_iff.1 h1
theorem at_ref {H : Hs} {i : Nat} (hi : i < H.os.length) : H.at (ref i) = some i := by
  unfold Hs.at
  rw [if_pos ⟨rfl, rfl, by show (1 : Int) ≤ (i : Int) + 1; omega, by show (i : Int) + 1 ≤ _; omega⟩]
  show some (((i : Int) + 1 - 1).toNat) = _
  congr 1
  omega
set_option linter.unusedSimpArgs false in
set_option maxRecDepth 8000 in
set_option maxHeartbeats 2000000 in
theorem array_any (h : PH w A H ow L) (g : Gd H) (v : Vl) (l : List Vl) (hl : ∀ x ∈ l, Sv x) {sl : Value} {bk : Nat} (hv : Vls w sl l bk) (hbk : bk < w.heap.size ∧ ow bk = none) (hT : Tab w) (hTo : ow 0 = none) (hll : l.length ≤ 4194304) :
    Calls Tryz.prog 26 #[pv A, v.v, sl] w (HpR w A ow L (makeR (H.array dx AR v l).2) (H.array dx AR v l).1) := by
  have hb0 := two_low (w := w) 29 29 (Vl.cs v) (Vl.cs vundef)
  have HP := Lib.hid (h.low hb0)
  have HG := Lib.hid g
  have HPW := Lib.hid h
  have HB := Lib.hid hb0
  have HSL := Lib.hid hl
  have HBK := Lib.hid hbk
  have HTO := Lib.hid hTo
  have HT0 := Lib.hid (hT.below hb0)
  have HVS := Lib.hid (hv.fr (hb0.block bk hbk.1))
  have HLL := Lib.hid hll
  have HR0 : Hid (Blk ((w.alloc (.cells (Vl.cs v).toArray 29)).alloc (.cells (Vl.cs vundef).toArray 29)) w.heap.size 29 v.cs ∧ Blk ((w.alloc (.cells (Vl.cs v).toArray 29)).alloc (.cells (Vl.cs vundef).toArray 29)) (w.heap.size + 1) 29 vundef.cs) := by
    obtain ⟨W0, e, h1, h2, -⟩ := two_new w 29 29 v.cs vundef.cs
    rw [← e] at h1 h2
    exact ⟨h1, h2⟩
  have HLF := Lib.hid (left_any HP.out g.ok.le g.mx)
  have hmx := g.mx
  have hle := g.ok.le
  obtain ⟨A0, c0, hsl, -⟩ := id hv
  obtain ⟨r, HR⟩ : ∃ r, Hid (H.array dx AR v l = r) := ⟨_, rfl⟩
  rw [HR.out, hsl]
  have HSE := Lib.hid hsl
  clear h g hb0 hl hv hbk hT hTo hsl
  obtain ⟨vk, vn, vs⟩ := v
  simp only [Vl.v, Vl.cs, vundef, nil] at HP HB HR0 HLF HT0 HVS ⊢
  obtain ⟨d0, d1, d2⟩ := Blk.three (v := ⟨0, 0, ⟨#[]⟩⟩) HR0.out.2
  have z := HR0.out.2.fz
  dsimp only at d0 d1 d2
  by_cases hbig : 1000 < l.length
  · have HV := Lib.hid (array_no (H := H) ⟨vk, vn, vs⟩ (l := l) (.inl hbig))
    have hbi : (1000 : Int) < (l.length : Int) := by omega
    clear HLF
    go_enter Tryz.func26, Tryz.ntmps26
    go_wp2_with fail
    refine bodyPost_ret (res_vt rfl _ _ (w.heap.size + 1) vundef _ (by rfl) (by rfl) ?_) rfl ?_
    · exact HR0.out.2
    · rw [← HR.out, HV.out]
      exact ⟨rfl, ow, L, Hch.below HPW.out HB.out⟩
  · have hbi : ¬ (1000 : Int) < (l.length : Int) := by omega
    by_cases hmo : H.most < H.n + (l.length + 1)
    · have HV := Lib.hid (array_no (H := H) ⟨vk, vn, vs⟩ (l := l) (.inr hmo))
      have hmi : (H.most : Int) - (H.n : Int) ≤ (l.length : Int) := by omega
      clear d0 d1 d2 z
      go_enter Tryz.func26, Tryz.ntmps26
      go_wp2_with fail
      refine HLF.out.mono ?_
      rintro e w1 ⟨rfl, hb⟩
      have HB1 := Lib.hid (HB.out.trans (hb.mono HB.out.size))
      have HW1 := Lib.hid (HR0.out.2.low hb)
      obtain ⟨d0, d1, d2⟩ := Blk.three (v := ⟨0, 0, ⟨#[]⟩⟩) HW1.out
      have z := HW1.out.fz
      dsimp only at d0 d1 d2
      clear hb
      go_wp2_with fail
      refine bodyPost_ret (res_vt rfl _ _ (w.heap.size + 1) vundef _ (by rfl) (by rfl) ?_) rfl ?_
      · exact ((HW1.out.set 0 _).set 1 _).set 2 _
      · rw [← HR.out, HV.out]
        exact ⟨rfl, ow, L, (Hch.below HPW.out ((((HB1.out).setCell (p := ⟨w.heap.size + 1, 0, none⟩) (Nat.le_succ _) _).setCell (p := ⟨w.heap.size + 1, 1, none⟩) (Nat.le_succ _) _).setCell (p := ⟨w.heap.size + 1, 2, none⟩) (Nat.le_succ _) _))⟩
    · have HV := Lib.hid (array_yes (H := H) ⟨vk, vn, vs⟩ (l := l) (by omega) (by omega))
      have hmi : ¬ (H.most : Int) - (H.n : Int) ≤ (l.length : Int) := by omega
      clear d0 d1 d2 z
      go_enter Tryz.func26, Tryz.ntmps26
      go_wp2_with fail
      refine HLF.out.mono ?_
      rintro e w1 ⟨rfl, hb⟩
      have HP1 := Lib.hid (HP.out.low hb)
      have HB1 := Lib.hid (HB.out.trans (hb.mono HB.out.size))
      have HW01 := Lib.hid (HR0.out.1.low hb)
      have HW11 := Lib.hid (HR0.out.2.low hb)
      have HT1 := Lib.hid (HT0.out.below hb)
      have HVS1 := Lib.hid (HVS.out.fr (hb.block bk (Nat.lt_of_lt_of_le HBK.out.1 HB.out.size)))
      have HMK := Lib.hid (make_any HP1.out HG.out AR (by decide) ⟨vk, vn, vs⟩)
      rw [show (H.make AR ⟨vk, vn, vs⟩) = (arrH H ⟨vk, vn, vs⟩ l 0, some H.os.length) from if_neg (by omega)] at HMK
      simp only [makeR, ref, Vl.v, nil, AR_is] at HMK
      obtain ⟨d0, d1, d2⟩ := Blk.three (v := ⟨vk, vn, vs⟩) HW01.out
      dsimp only at d0 d1 d2
      clear hb HLF HP HB HR0 HT0 HVS
      go_wp2_with fail
      refine HMK.out.mono ?_
      rintro e w2 ⟨rfl, ow2, L2, hc⟩
      have HC := Lib.hid hc
      clear hc
      have hlen2 : L2.length = H.os.length + 1 := by rw [HC.out.ph.len]; show (H.os ++ [_]).length = _; rw [List.length_append]; rfl
      obtain ⟨x0, hx0⟩ : ∃ x0, L2[H.os.length]? = some x0 := ⟨L2[H.os.length]'(by omega), List.getElem?_eq_getElem _⟩
      have hbm := below_new w2 (.cells #[.int .i64 7, .int .i64 ((H.os.length : Int) + 1), .string ⟨#[]⟩] 29)
      have HFD := Lib.hid (find_any (HC.out.ph.low hbm) (ref H.os.length) (arr_gd HG.out ⟨vk, vn, vs⟩ HSL.out (j := 0) (Nat.zero_le _) (by omega) (by omega)).os100)
      rw [at_ref (H := arrH H ⟨vk, vn, vs⟩ l 0) (by show _ < (H.os ++ [_]).length; rw [List.length_append]; exact Nat.lt_succ_self _), show ppv L2 (some H.os.length) = pv x0.b by simp only [ppv, hx0]] at HFD
      simp only [ref, Vl.v, nil] at HFD
      have HX0 := Lib.hid hx0
      have HP8 := Lib.hid (Blk.new w2 29 [.int .i64 7, .int .i64 ((H.os.length : Int) + 1), .string ⟨#[]⟩])
      have HBM := Lib.hid hbm
      clear hx0 hbm hlen2 d0 d1 d2
      go_wp2_with fail
      refine HFD.out.mono ?_
      rintro e w4 ⟨rfl, hb4⟩
      have hbm2 := HBM.out.trans (hb4.mono HBM.out.size)
      have HPH4 := Lib.hid (HC.out.ph.low hbm2)
      have HP84 := Lib.hid (HP8.out.low hb4)
      have ho1 : ∀ k, w.heap.size ≤ k → ow k = none := fun k hk => by
        cases e : ow k with
        | none => rfl
        | some r => exact absurd (HPW.out.lt k (by rw [e]; simp)) (by omega)
      have hn2 : ∀ k, k < w1.heap.size → ow k = none → ow2 k = none := fun k h1 h2 => HC.out.out h1 h2
      have hk2 : ∀ k, k < w1.heap.size → ow k = none → w4.heap[k]? = w1.heap[k]? := fun k h1 h2 => (hbm2.block k (Nat.lt_of_lt_of_le h1 HC.out.fr.size)).trans (HC.out.kept h1 h2)
      have hwl : w.heap.size ≤ w1.heap.size := HB1.out.size
      have HP14 : Hid (Blk w4 (w.heap.size + 1) 29 [.int .i64 0, .int .i64 0, .string ⟨#[]⟩] ∧ ow2 (w.heap.size + 1) = none) := ⟨HW11.out.fr (hk2 _ HW11.out.lt (ho1 _ (by omega))), hn2 _ HW11.out.lt (ho1 _ (by omega))⟩
      have HVS4 : Hid (Vls w4 sl l bk ∧ ow2 bk = none ∧ bk < w4.heap.size) := ⟨HVS1.out.fr (hk2 bk (by have := HBK.out.1; omega) HBK.out.2), hn2 bk (by have := HBK.out.1; omega) HBK.out.2, by have := HBK.out.1; have := HC.out.fr.size; have := hbm2.size; omega⟩
      have HT4 : Hid (Tab w4 ∧ ow2 0 = none ∧ 0 < w4.heap.size) := ⟨HT1.out.same (hk2 _ HT1.out.lt HTO.out), hn2 _ HT1.out.lt HTO.out, by have := HT1.out.lt; have := HC.out.fr.size; have := hbm2.size; omega⟩
      have HO8 : Hid (ow2 w2.heap.size = none) := by
        show ow2 w2.heap.size = none
        cases e : ow2 w2.heap.size with
        | none => rfl
        | some r => exact absurd (HC.out.ph.lt _ (by rw [e]; simp)) (by omega)
      have HC4 : Hid (∀ ow' L' wr, Hch w4 A ow2 L2 (arrH H ⟨vk, vn, vs⟩ l l.length) wr ow' L' → Hch w A ow L (arrH H ⟨vk, vn, vs⟩ l l.length) wr ow' L') := fun ow' L' wr hh => ((HC.out.trans ⟨HPH4.out, fun _ e => .inl e, Fr.of hbm2 fun k hk => hk.1, [], by simp⟩).trans hh).low HB1.out
      clear hb4 hbm2 ho1 hn2 hk2 hwl HFD HMK HC HBM HP8 HP1 HW01 HW11 HT1 HVS1
      go_wp2_with fail
      go_loopw [35] (fun v wr => ∃ (j : Nat) (ow' : Nat → Option Nat) (L' : List OL), v = .int .i64 (j : Int) ∧ j ≤ l.length ∧ Hid (Hch w4 A ow2 L2 (arrH H ⟨vk, vn, vs⟩ l j) wr ow' L')) (fun v _ => l.length - (intOf v).toNat)
      case atStart => exact ⟨0, ow2, L2, rfl, Nat.zero_le _, Lib.hid (Hch.self HPH4.out)⟩
      case round =>
        obtain ⟨j, ow', L', rfl, hj, HCR⟩ := hrel
        by_cases hlt : j < l.length
        · have hjl : (j : Int) < (l.length : Int) := by omega
          obtain ⟨x', hx', hxb⟩ := HCR.out.nth HX0.out
          obtain ⟨A1, c1, esl, hcl⟩ := HVS4.out.1.fr (HCR.out.kept HVS4.out.2.2 HVS4.out.2.1)
          obtain ⟨q, hq, e1, e2, e3⟩ := hcl j l[j] (List.getElem?_eq_getElem hlt)
          have hA0 : A0 = some ⟨bk, q, none⟩ := by
            have := HSE.out.symm.trans esl
            injection this with h1 _ _
            rw [h1, hq]
          subst hA0
          have hxs : Sv l[j] := HSL.out _ (List.getElem_mem hlt)
          have HGJ := Lib.hid (arr_gd HG.out ⟨vk, vn, vs⟩ HSL.out (j := j) hj (by omega) (by omega))
          have HAJ := Lib.hid (arr_add (H := H) ⟨vk, vn, vs⟩ hlt (by omega) (by omega))
          have HNO := Lib.hid (pre_no l j)
          obtain ⟨y, HY⟩ : ∃ y, Hid (l[j] = y) := ⟨l[j], Lib.hid rfl⟩
          rw [HY.out] at e1 e2 e3 HAJ hxs
          have HXS := Lib.hid hxs
          have HXB := Lib.hid hxb
          have HX' := Lib.hid hx'
          obtain ⟨yk, yn, ys⟩ := y
          dsimp only at e1 e2 e3
          have hba := below_new wr (.cells #[.int .i64 yk, .int .i64 yn, .string ys] 29)
          have HY0 := Lib.hid (Blk.new wr 29 [.int .i64 yk, .int .i64 yn, .string ys])
          have hsJ : (fun w' : World => w'.cell? ⟨wr.heap.size, 0, none⟩ = some (.int .i64 yk) ∧ w'.cell? ⟨wr.heap.size, 1, none⟩ = some (.int .i64 yn) ∧ w'.cell? ⟨wr.heap.size, 2, none⟩ = some (.string ys)) (wr.alloc (.cells #[.int .i64 yk, .int .i64 yn, .string ys] 29)).drew := ⟨(HY0.out.fr (w' := (wr.alloc (.cells #[.int .i64 yk, .int .i64 yn, .string ys] 29)).drew) rfl).cell (k := 0) rfl, (HY0.out.fr (w' := (wr.alloc (.cells #[.int .i64 yk, .int .i64 yn, .string ys] 29)).drew) rfl).cell (k := 1) rfl, (HY0.out.fr (w' := (wr.alloc (.cells #[.int .i64 yk, .int .i64 yn, .string ys] 29)).drew) rfl).cell (k := 2) rfl⟩
          have HPJ : Hid (PH (wr.alloc (.cells #[.int .i64 yk, .int .i64 yn, .string ys] 29)).drew A (arrH H ⟨vk, vn, vs⟩ l j) ow' L') := (HCR.out.ph.low hba).low (below_draw _)
          have HTJ : Hid (Tab (wr.alloc (.cells #[.int .i64 yk, .int .i64 yn, .string ys] 29)).drew) := ((HT4.out.1.same (HCR.out.kept HT4.out.2.2 HT4.out.2.1)).below hba).below (below_draw _)
          have HBJ : Hid (Below wr.heap.size wr (wr.alloc (.cells #[.int .i64 yk, .int .i64 yn, .string ys] 29)).drew) := hba.drew
          have HYJ := Lib.hid (HY0.out.fr (w' := (wr.alloc (.cells #[.int .i64 yk, .int .i64 yn, .string ys] 29)).drew) rfl)
          have HOJ : Hid (ow' wr.heap.size = none) := by
            show ow' wr.heap.size = none
            cases e : ow' wr.heap.size with
            | none => rfl
            | some r => exact absurd (HCR.out.ph.lt _ (by rw [e]; simp)) (by omega)
          clear hcl hxs hxb hx' hba HY0
          go_wp2_with fail
          refine wp_region_held_drew (S := (fun w' : World => w'.cell? ⟨wr.heap.size, 0, none⟩ = some (.int .i64 yk) ∧ w'.cell? ⟨wr.heap.size, 1, none⟩ = some (.int .i64 yn) ∧ w'.cell? ⟨wr.heap.size, 2, none⟩ = some (.string ys))) (by kernel_rfl) (hsJ) (fun hHeld0 => ?_)
          generalize (wr.alloc (.cells #[.int .i64 yk, .int .i64 yn, .string ys] 29)).drew = v1 at *
          (refine wpAnyH_take (i := 0) (v := ?_) rfl (by kernel_rfl) (by decide +kernel) (by decide +kernel) (fun _ _ _ h => h) (Or.inl ⟨by rfl, ?_⟩) (by assumption) ?_; rotate_left; (focus (intro w0 hSw; obtain ⟨e0, e1, e2⟩ := hSw; go_simp; (try with_reducible rfl); done)))
          (refine wpAnyH_take (i := 1) (v := ?_) rfl (by kernel_rfl) (by decide +kernel) (by decide +kernel) (fun _ _ _ h => h) (Or.inl ⟨by rfl, ?_⟩) (by assumption) ?_; rotate_left; (focus (intro w0 hSw; obtain ⟨e0, e1, e2⟩ := hSw; go_simp; (try with_reducible rfl); done)))
          (refine wpAnyH_take (i := 2) (v := ?_) rfl (by kernel_rfl) (by decide +kernel) (by decide +kernel) (fun _ _ _ h => h) (Or.inl ⟨by rfl, ?_⟩) (by assumption) ?_; rotate_left; (focus (intro w0 hSw; obtain ⟨e0, e1, e2⟩ := hSw; go_simp; (try with_reducible rfl); done)))
          (refine wpAnyH_take (i := 4) (v := ?_) rfl (by kernel_rfl) (by decide +kernel) (by decide +kernel) (fun _ _ _ h => h) (Or.inl ⟨by rfl, ?_⟩) (by assumption) ?_; rotate_left; (focus (intro w0 hSw; obtain ⟨e0, e1, e2⟩ := hSw; go_simp; (try with_reducible rfl); done)))
          try simp only [List.getElem_toArray, List.getElem_cons_zero, List.getElem_cons_succ, Act.put, List.setIfInBounds_toArray, List.set_cons_zero, List.set_cons_succ]
          refine wpAnyH_ready (rs := [3]) (by decide +kernel) (by simp) (AllReadyH.cons rfl (fun K hK => ?_) AllReadyH.nil)
          have hKX := indexKey_any j (by omega) v1 HTJ.out
          go_simp
          refine hKX.mono ?_
          rintro e v2 ⟨rfl, hb⟩
          have HPJ2 := Lib.hid (HPJ.out.low hb)
          have HBJ2 := Lib.hid (HBJ.out.trans (hb.mono HBJ.out.size))
          have HYJ2 := Lib.hid (HYJ.out.low hb)
          have hs2 : (fun w' : World => w'.cell? ⟨wr.heap.size, 0, none⟩ = some (.int .i64 yk) ∧ w'.cell? ⟨wr.heap.size, 1, none⟩ = some (.int .i64 yn) ∧ w'.cell? ⟨wr.heap.size, 2, none⟩ = some (.string ys)) v2 := ⟨HYJ2.out.cell (k := 0) rfl, HYJ2.out.cell (k := 1) rfl, HYJ2.out.cell (k := 2) rfl⟩
          clear hb hKX HPJ HYJ HTJ
          refine hK.out _ _ hs2 (fun hHeld1 => ?_)
          clear hK K hHeld0 
          try simp only [List.getElem_toArray, List.getElem_cons_zero, List.getElem_cons_succ, Act.put, List.setIfInBounds_toArray, List.set_cons_zero, List.set_cons_succ]
          refine wpAnyH_ready (rs := [5]) (by decide +kernel) (by simp) (AllReadyH.cons rfl (fun K hK => ?_) AllReadyH.nil)
          have hPl := plain_any (dx j) ⟨yk, yn, ys⟩ v2
          simp only [Vl.v] at hPl
          go_simp
          refine hPl.mono ?_
          rintro e v3 ⟨rfl, hb⟩
          have HPJ3 := Lib.hid (HPJ2.out.low hb)
          have HBJ3 := Lib.hid (HBJ2.out.trans (hb.mono HBJ2.out.size))
          have HYJ3 := Lib.hid (HYJ2.out.low hb)
          have hs3 : (fun w' : World => w'.cell? ⟨wr.heap.size, 0, none⟩ = some (.int .i64 yk) ∧ w'.cell? ⟨wr.heap.size, 1, none⟩ = some (.int .i64 yn) ∧ w'.cell? ⟨wr.heap.size, 2, none⟩ = some (.string ys)) v3 := ⟨HYJ3.out.cell (k := 0) rfl, HYJ3.out.cell (k := 1) rfl, HYJ3.out.cell (k := 2) rfl⟩
          clear hb hPl HPJ2 HYJ2
          refine hK.out _ _ hs3 (fun hHeld2 => ?_)
          clear hK K hHeld1 
          try simp only [List.getElem_toArray, List.getElem_cons_zero, List.getElem_cons_succ, Act.put, List.setIfInBounds_toArray, List.set_cons_zero, List.set_cons_succ]
          refine wpAnyH_ready (rs := [6]) (by decide +kernel) (by simp) (AllReadyH.cons rfl (fun K hK => ?_) AllReadyH.nil)
          have hA := add_any (i := H.os.length) (o := arrO H ⟨vk, vn, vs⟩ l j) HPJ3.out HGJ.out HX'.out (by show (H.os ++ [_])[H.os.length]? = _; rw [List.getElem?_append_right (Nat.le_refl _), Nat.sub_self]; rfl) ⟨dx j, ⟨yk, yn, ys⟩, true, true, true⟩ ⟨dx_size (by omega), HXS.out⟩ HNO.out
          rw [HAJ.out, HXB.out] at hA
          simp only [Pr.v'] at hA ⊢
          go_simp
          refine hA.mono ?_
          rintro e v4 ⟨rfl, ow'', L'', hc⟩
          have HCN : Hid (Hch w4 A ow2 L2 (arrH H ⟨vk, vn, vs⟩ l (j + 1)) v4 ow'' L'') := HCR.out.trans (hc.low HBJ3.out)
          have HYJ4 := HYJ3.out.fr (hc.kept HYJ3.out.lt HOJ.out)
          have hs4 : (fun w' : World => w'.cell? ⟨wr.heap.size, 0, none⟩ = some (.int .i64 yk) ∧ w'.cell? ⟨wr.heap.size, 1, none⟩ = some (.int .i64 yn) ∧ w'.cell? ⟨wr.heap.size, 2, none⟩ = some (.string ys)) v4 := ⟨HYJ4.cell (k := 0) rfl, HYJ4.cell (k := 1) rfl, HYJ4.cell (k := 2) rfl⟩
          clear hc hA HYJ4
          refine hK.out _ _ hs4 (fun hHeld3 => ?_)
          clear hK K hHeld2 
          try simp only [List.getElem_toArray, List.getElem_cons_zero, List.getElem_cons_succ, Act.put, List.setIfInBounds_toArray, List.set_cons_zero, List.set_cons_succ]
          refine wpAnyH_done (by kernel_rfl) ?_ _
          clear hHeld3 hsJ hs2 hs3 hs4
          go_wp2_with fail
          go_roundw
          case rel => exact ⟨j + 1, ow'', L'', by go_num, by omega, HCN⟩
          case measure => (simp [intOf] <;> omega)
        · have hjl : ¬ (j : Int) < (l.length : Int) := by omega
          have hje : j = l.length := by omega
          subst hje
          have HP8R := Lib.hid (HP84.out.fr (HCR.out.kept HP84.out.lt HO8.out))
          have HP1R := Lib.hid (HP14.out.1.fr (HCR.out.kept HP14.out.1.lt HP14.out.2))
          have HO1R := Lib.hid (HCR.out.out HP14.out.1.lt HP14.out.2)
          obtain ⟨d0, d1, d2⟩ := Blk.three (v := ⟨7, (H.os.length : Int) + 1, ⟨#[]⟩⟩) HP8R.out
          obtain ⟨f0, f1, f2⟩ := Blk.three (v := ⟨0, 0, ⟨#[]⟩⟩) HP1R.out
          have z := HP1R.out.fz
          dsimp only at d0 d1 d2 f0 f1 f2
          go_wp2_with fail
          refine bodyPost_ret (res_vt rfl _ _ (w.heap.size + 1) (ref H.os.length) _ (by rfl) (by rfl) ?_) rfl ?_
          · exact ((HP1R.out.set 0 _).set 1 _).set 2 _
          · rw [← HR.out, HV.out]
            refine ⟨rfl, ow', L', (HC4.out _ _ _ HCR.out).aside HO1R.out (Nat.le_succ _) ?_⟩
            exact (((Fr.refl (fun k => k ≠ w.heap.size + 1) wr).setCell (p := ⟨w.heap.size + 1, 0, none⟩) (fun hk => hk rfl) _).setCell (p := ⟨w.heap.size + 1, 1, none⟩) (fun hk => hk rfl) _).setCell (p := ⟨w.heap.size + 1, 2, none⟩) (fun hk => hk rfl) _
end
end Go.Proofs.YtcahijpbkjplmaaGreatDoor.G
