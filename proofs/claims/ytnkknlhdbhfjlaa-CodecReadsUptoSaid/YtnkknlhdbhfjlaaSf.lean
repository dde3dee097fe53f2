/-
  The reference's Read and Decode; Same of bytes; live, by contract.
-/
import Derived.Test.YtnkknlhdbhfjlaaSe
import Derived.Test.YtnkknlhdbhfjlaaWc
import Derived.Test.YtnkknlhdbhfjlaaD
namespace Go.Proofs.Ytnkknlhdbhfjlaa
open Go.RowKit

set_option maxRecDepth 8000 in
set_option maxHeartbeats 1000000 in
theorem refRead_any (A : Option Addr) (l : Bs) (c : Nat) (w : World) (hB : O.Byt w A l) (hl : l.length ≤ 4194304) (hlc : l.length ≤ c) : Calls Try.prog 14 #[.slice A l.length c] w (PostR w (dec 20 l)) := by
  obtain ⟨i5, hi5, hz5, hs5, hb5⟩ := info_parts infoData
  have HR := Lib.hid fun w' (hb : Below w.heap.size w w') => refRead_all 20 A l c w' 0 (hB.below hb) hl hlc rfl
  cases hx : dec 20 l with
  | bad q =>
    rw [hx] at HR
    clear hB hx
    go_enter Try.func14, Try.ntmps14
    go_wp2_with fail
    refine (HR.out _ (below_alloc _ _)).mono ?_
    rintro e w1 ⟨rfl, hb⟩
    have hzr : w1.heap[w.heap.size]? = some zrow := (hb.block _ (by simp)).trans (hp_new rfl)
    obtain ⟨t0, t1, t2, t3, t4, t5⟩ := zrow_cells hzr
    have f0 := t5 0
    have f1 := t5 1
    have f2 := t5 2
    have f3 := t5 3
    have f4 := t5 4
    have HB := Lib.hid ((below_alloc w (.cells #[.int .i64 0, .int .i64 0, .string ⟨#[]⟩, .slice none 0 0, .slice none 0 0] 25)).trans (hb.mono (by simp)))
    have HZ := Lib.hid hzr
    clear t5 hb hzr HR
    go_wp2_with fail
    rw [← put5_lit]
    refine bodyPost_ret (res_ctt rfl _ _ w.heap.size 25 _ (0, 0) _ rfl (put5_row HZ.out _) Try.underlying25 rfl (by rw [hi5]; simp [hs5, X.cells])) rfl ?_
    exact ⟨rfl, HB.out.trans ((put5_fr _ _ _ _).mono fun q (hq : q < w.heap.size) => by show q ≠ w.heap.size; omega).below⟩
  | good v n =>
    rw [hx] at HR
    clear hB hx
    go_enter Try.func14, Try.ntmps14
    go_wp2_with fail
    refine (HR.out _ (below_alloc _ _)).mono ?_
    rintro e w1 ⟨⟨zk, zn, zs, zka, zkn, zkc, zla, zln, zlc⟩, rfl, hy, hb⟩
    simp only [X.v]
    have hzr : w1.heap[w.heap.size]? = some zrow := (hb.block _ (by simp)).trans (hp_new rfl)
    obtain ⟨t0, t1, t2, t3, t4, t5⟩ := zrow_cells hzr
    have f0 := t5 0
    have f1 := t5 1
    have f2 := t5 2
    have f3 := t5 3
    have f4 := t5 4
    have HB := Lib.hid ((below_alloc w (.cells #[.int .i64 0, .int .i64 0, .string ⟨#[]⟩, .slice none 0 0, .slice none 0 0] 25)).trans (hb.mono (by simp)))
    have HZ := Lib.hid hzr
    have HY := Lib.hid (IsP.fr (P' := fun g => w.heap.size + 1 ≤ g ∧ g < w1.heap.size) (Fr.refl _ _) (fun q hq => ⟨by have := hq.1; simpa using this, hq.2⟩) _ _ hy)
    clear t5 hb hzr HR hy
    go_wp2_with fail
    rw [← put5_lit]
    have hfr := put5_fr w1 w.heap.size 0 ⟨zk, zn, zs, zka, zkn, zkc, zla, zln, zlc⟩
    refine bodyPost_ret (res_ctt rfl _ _ w.heap.size 25 _ (0, 0) _ rfl (put5_row HZ.out _) Try.underlying25 rfl (by rw [hi5]; simp [hs5, X.cells])) rfl ?_
    exact ⟨⟨zk, zn, zs, zka, zkn, zkc, zla, zln, zlc⟩, rfl, IsP.fr (hfr.mono fun q hq => by show q ≠ w.heap.size; omega) (fun q hq => ⟨by omega, Nat.lt_of_lt_of_le hq.2 hfr.size⟩) _ _ HY.out, HB.out.trans (hfr.mono fun q (hq : q < w.heap.size) => by show q ≠ w.heap.size; omega).below⟩

set_option maxRecDepth 8000 in
set_option maxHeartbeats 1000000 in
theorem refDecode_any (A : Option Addr) (l : Bs) (c : Nat) (w : World) (hB : O.Byt w A l) (hl : l.length ≤ 4194304) (hlc : l.length ≤ c) : Calls Try.prog 16 #[.slice A l.length c] w (PostD w l) := by
  obtain ⟨i5, hi5, hz5, hs5, hb5⟩ := info_parts infoData
  have HR := Lib.hid fun w' (hb : Below w.heap.size w w') => refRead_any A l c w' (hB.below hb) hl hlc
  cases hx : dec 20 l with
  | bad q =>
    have hq := dec_right 20 l
    rw [hx] at hq HR
    have HO : Hid (decO l = (.mk 0 0 ⟨#[]⟩ [] [], (q : Int))) := by
      unfold decO
      rw [hx]
      exact Lib.hid rfl
    have hq0 : ((q : Int) != 0) = true := by
      have : q = 20 ∨ q = 22 ∨ q = 31 := hq
      simp
      omega
    clear hB hx hq
    go_enter Try.func16, Try.ntmps16
    go_wp2_with fail
    refine (HR.out _ (below_alloc _ _)).mono ?_
    rintro e w1 ⟨rfl, hb⟩
    have hz1 := hb.size
    simp at hz1
    have hzr : (w1.alloc (.cells #[.int .i64 0, .int .i64 0, .string ⟨#[]⟩, .slice none 0 0, .slice none 0 0] 25)).heap[w.heap.size]? = some zrow := (Below.heap_alloc _ _ _ (by omega)).trans ((hb.block _ (by simp)).trans (hp_new rfl))
    obtain ⟨t0, t1, t2, t3, t4, t5⟩ := zrow_cells hzr
    have f0 := t5 0
    have f1 := t5 1
    have f2 := t5 2
    have f3 := t5 3
    have f4 := t5 4
    have hne : ¬ w.heap.size = w1.heap.size := by omega
    have HB := Lib.hid ((below_alloc w (.cells #[.int .i64 0, .int .i64 0, .string ⟨#[]⟩, .slice none 0 0, .slice none 0 0] 25)).trans (hb.mono (by simp)))
    have HZ := Lib.hid hzr
    clear t5 hb hzr HR
    go_wp2_with fail
    rw [← put5_lit]
    refine bodyPost_ret (res_ct rfl _ _ w.heap.size 25 _ (0, 0) _ rfl (put5_row HZ.out _) Try.underlying25 rfl (by rw [hi5]; simp [hs5, X.cells])) rfl ?_
    refine ⟨⟨0, 0, ⟨#[]⟩, none, 0, 0, none, 0, 0⟩, by rw [HO.out]; rfl, by rw [HO.out]; exact isP_plain _ _ _ _ _, ?_⟩
    exact (HB.out.trans ((below_alloc _ _).mono (by omega))).trans ((put5_fr _ _ _ _).mono fun q (hq : q < w.heap.size) => by show q ≠ w.heap.size; omega).below
  | good v n =>
    have hn := right_good hx
    rw [hx] at HR
    by_cases hnl : n < l.length
    · have HO : Hid (decO l = (.mk 0 0 ⟨#[]⟩ [] [], 22)) := by
        unfold decO
        rw [hx]
        simp only
        rw [if_pos hnl]
        exact Lib.hid rfl
      clear hB hx hn
      go_enter Try.func16, Try.ntmps16
      go_wp2_with fail
      refine (HR.out _ (below_alloc _ _)).mono ?_
      rintro e w1 ⟨⟨zk, zn, zs, zka, zkn, zkc, zla, zln, zlc⟩, rfl, hy, hb⟩
      have hz1 := hb.size
      simp at hz1
      have hzr : (w1.alloc (.cells #[.int .i64 zk, .int .i64 zn, .string zs, .slice zka zkn zkc, .slice zla zln zlc] 25)).heap[w.heap.size]? = some zrow := (Below.heap_alloc _ _ _ (by omega)).trans ((hb.block _ (by simp)).trans (hp_new rfl))
      obtain ⟨t0, t1, t2, t3, t4, t5⟩ := zrow_cells hzr
      have f0 := t5 0
      have f1 := t5 1
      have f2 := t5 2
      have f3 := t5 3
      have f4 := t5 4
      have hne : ¬ w.heap.size = w1.heap.size := by omega
      have HB := Lib.hid ((below_alloc w (.cells #[.int .i64 0, .int .i64 0, .string ⟨#[]⟩, .slice none 0 0, .slice none 0 0] 25)).trans (hb.mono (by simp)))
      have HZ := Lib.hid hzr
      clear t5 hb hzr HR hy
      simp only [X.v]
      go_wp2_with fail
      rw [← put5_lit]
      refine bodyPost_ret (res_ct rfl _ _ w.heap.size 25 _ (0, 0) _ rfl (put5_row HZ.out _) Try.underlying25 rfl (by rw [hi5]; simp [hs5, X.cells])) rfl ?_
      refine ⟨⟨0, 0, ⟨#[]⟩, none, 0, 0, none, 0, 0⟩, by rw [HO.out]; rfl, by rw [HO.out]; exact isP_plain _ _ _ _ _, ?_⟩
      exact (HB.out.trans ((below_alloc _ _).mono (by omega))).trans ((put5_fr _ _ _ _).mono fun q (hq : q < w.heap.size) => by show q ≠ w.heap.size; omega).below
    · have HO : Hid (decO l = (v, 0)) := by
        unfold decO
        rw [hx]
        simp only
        rw [if_neg hnl]
        exact Lib.hid rfl
      obtain rfl : n = l.length := by omega
      clear hB hx hn hnl
      go_enter Try.func16, Try.ntmps16
      go_wp2_with fail
      refine (HR.out _ (below_alloc _ _)).mono ?_
      rintro e w1 ⟨⟨zk, zn, zs, zka, zkn, zkc, zla, zln, zlc⟩, rfl, hy, hb⟩
      have hz1 := hb.size
      simp at hz1
      have hzr : (w1.alloc (.cells #[.int .i64 zk, .int .i64 zn, .string zs, .slice zka zkn zkc, .slice zla zln zlc] 25)).heap[w.heap.size]? = some zrow := (Below.heap_alloc _ _ _ (by omega)).trans ((hb.block _ (by simp)).trans (hp_new rfl))
      obtain ⟨t0, t1, t2, t3, t4, t5⟩ := zrow_cells hzr
      have f0 := t5 0
      have f1 := t5 1
      have f2 := t5 2
      have f3 := t5 3
      have f4 := t5 4
      have hne : ¬ w.heap.size = w1.heap.size := by omega
      have HB := Lib.hid ((below_alloc w (.cells #[.int .i64 0, .int .i64 0, .string ⟨#[]⟩, .slice none 0 0, .slice none 0 0] 25)).trans (hb.mono (by simp)))
      have HZ := Lib.hid hzr
      have HY := Lib.hid hy
      clear t5 hb hzr HR hy
      simp only [X.v]
      go_wp2_with fail
      rw [← put5_lit]
      have hfr := put5_fr (w1.alloc (.cells #[.int .i64 zk, .int .i64 zn, .string zs, .slice zka zkn zkc, .slice zla zln zlc] 25)) w.heap.size 0 ⟨zk, zn, zs, zka, zkn, zkc, zla, zln, zlc⟩
      refine bodyPost_ret (res_ct rfl _ _ w.heap.size 25 _ (0, 0) _ rfl (put5_row HZ.out _) Try.underlying25 rfl (by rw [hi5]; simp [hs5, X.cells])) rfl ?_
      refine ⟨⟨zk, zn, zs, zka, zkn, zkc, zla, zln, zlc⟩, by rw [HO.out]; rfl, ?_, ?_⟩
      · rw [HO.out]
        refine IsP.fr (hfr.mono fun q hq => ?_) (fun q hq => ⟨?_, Nat.lt_of_lt_of_le hq.2 hfr.size⟩) _ _ (IsP.fr (P' := fun g => w.heap.size + 1 ≤ g ∧ g < (w1.alloc (.cells #[.int .i64 zk, .int .i64 zn, .string zs, .slice zka zkn zkc, .slice zla zln zlc] 25)).heap.size) (Fr.of (below_alloc w1 (.cells #[.int .i64 zk, .int .i64 zn, .string zs, .slice zka zkn zkc, .slice zla zln zlc] 25)) fun q hq => hq.2) (fun q hq => ⟨by have := hq.1; simpa using this, by have := hq.2; simp; omega⟩) _ _ HY.out)
        · have := hq.1
          show q ≠ w.heap.size
          omega
        · have := hq.1
          omega
      · exact (HB.out.trans ((below_alloc _ _).mono (by omega))).trans (hfr.mono fun q (hq : q < w.heap.size) => by show q ≠ w.heap.size; omega).below
/-- Same of bytes -/
theorem bsame_any (A B : Option Addr) (l m : Bs) (c d : Nat) (w : World) (hA : O.Byt w A l) (hB : O.Byt w B m) :
    Calls Try.prog 11 #[.slice A l.length c, .slice B m.length d] w fun e w' => e = .returned (.bool (decide (l = m))) ∧ w = w' := by
  by_cases h : l = m
  · subst h
    rw [decide_eq_true rfl]
    exact O.same_any A B l c d w hA hB
  · rw [decide_eq_false h]
    have h1 := O.string_of (P := Try.prog) (c := c) w 27 9 5 Try.underlying27 Try.underlying5 Try.underlying9 hA
    have h2 := O.string_of (P := Try.prog) (c := d) w 27 9 5 Try.underlying27 Try.underlying5 Try.underlying9 hB
    have hne : ¬ (⟨l.toArray⟩ : ByteArray) = ⟨m.toArray⟩ := fun e => h (by
      have := congrArg (fun b : ByteArray => b.data.toList) e
      simpa using this)
    have hb := str_ne hne
    generalize (⟨l.toArray⟩ : ByteArray) = x at *
    generalize (⟨m.toArray⟩ : ByteArray) = y at *
    clear hA hB hne h
    go_enter Try.func11, Try.ntmps11
    go_wp2
    go_ret
    exact ⟨rfl, rfl⟩

/-- the chapter's example -/
def exV : V := .mk 5 0 ⟨#[]⟩ [] [.mk 3 1 ⟨#[]⟩ [] [], .mk 3 (-1) ⟨#[]⟩ [] []]
theorem ex_chk : exV.chk = 0 := by decide
theorem ex_wrt : exV.wrt = [7, 2, 4, 1, 5, 0] := by kernel_rfl
theorem ex_dec : decO [7, 2, 4, 1, 5, 0] = (exV, 0) := by kernel_rfl
theorem ex_bad : decO [5, 0, 0] = (.mk 0 0 ⟨#[]⟩ [] [], 22) := by kernel_rfl
theorem ex_bulk : exV.bulk ≤ 4194304 := by decide
theorem at_row {w : World} {g o : Nat} {cs : Array Value} {t : TypeId} {fr : Nat × Nat} {y : X} (h : w.heap[g]? = some (.cells cs t fr)) (h0 : cs[o]? = some (.int .i64 y.k)) (h1 : cs[o + 1]? = some (.int .i64 y.n)) (h2 : cs[o + 2]? = some (.string y.s))
    (h3 : cs[o + 3]? = some (.slice y.ka y.kn y.kc)) (h4 : cs[o + 4]? = some (.slice y.la y.ln y.lc)) : At w g o y :=
  ⟨(cell_of_row w g o _ _ _ h).trans h0, (cell_of_row w g (o + 1) _ _ _ h).trans h1, (cell_of_row w g (o + 2) _ _ _ h).trans h2, (cell_of_row w g (o + 3) _ _ _ h).trans h3, (cell_of_row w g (o + 4) _ _ _ h).trans h4⟩
theorem leaf_is (w : World) (B : Nat) (k n : Int) (s : ByteArray) : IsB w B (.mk k n s [] []) ⟨k, n, s, none, 0, 0, none, 0, 0⟩ := by
  rw [isB_iff]
  exact ⟨⟨rfl, rfl, rfl⟩, ⟨rfl, Nat.le_refl _, .inl rfl⟩, rfl, Nat.le_refl _, .inl rfl⟩
theorem ex_is {w : World} {g : Nat} (h : w.heap[g]? = some (.cells #[.int .i64 3, .int .i64 1, .string ⟨#[]⟩, .slice none 0 0, .slice none 0 0, .int .i64 3, .int .i64 (-1), .string ⟨#[]⟩, .slice none 0 0, .slice none 0 0] 25 (0, 0))) :
    Is w exV ⟨5, 0, ⟨#[]⟩, none, 0, 0, some ⟨g, 0, none⟩, 2, 2⟩ := by
  rw [is_iff]
  refine ⟨⟨rfl, rfl, rfl⟩, ⟨rfl, Nat.le_refl _, .inl rfl⟩, rfl, Nat.le_refl _, .inr ⟨_, 0, rfl, (Array.getElem?_eq_some_iff.1 h).1, ?_⟩⟩
  show IsAllB w _ _ _ [_, _]
  rw [IsAllB, IsAllB, IsAllB]
  exact ⟨⟨⟨3, 1, ⟨#[]⟩, none, 0, 0, none, 0, 0⟩, at_row h rfl rfl rfl rfl rfl, leaf_is _ _ _ _ _⟩, ⟨⟨3, -1, ⟨#[]⟩, none, 0, 0, none, 0, 0⟩, at_row h rfl rfl rfl rfl rfl, leaf_is _ _ _ _ _⟩, trivial⟩
set_option maxRecDepth 8000 in
set_option maxHeartbeats 1000000 in
theorem live_any (w : World) : Calls Try.prog 10 #[] w fun e w' => e = .returned (.bool true) ∧ Below w.heap.size w w' := by
  have HE : Hid (∀ w x, Is w exV x → Calls Try.prog 8 #[x.v] w (GivesE w [7, 2, 4, 1, 5, 0] 0)) := fun w x h => by
    have := encode_any exV x w h ex_bulk
    rw [ex_wrt, ex_chk] at this
    exact this
  have HD1 : Hid (∀ w A, O.Byt w A [5, 0, 0] → Calls Try.prog 15 #[.slice A 3 3] w fun e w' => ∃ y : X, e = .returned (.tuple #[y.v, .int .i64 22]) ∧ Below w.heap.size w w') := fun w A h => by
    refine (decode_any A [5, 0, 0] 3 w h (by decide) (by decide)).mono ?_
    rintro e w' ⟨y, h1, _, h3⟩
    rw [ex_bad] at h1
    exact ⟨y, h1, h3⟩
  have HD2 : Hid (∀ w A c, O.Byt w A [7, 2, 4, 1, 5, 0] → 6 ≤ c → Calls Try.prog 15 #[.slice A 6 c] w fun e w' => ∃ y : X, e = .returned (.tuple #[y.v, .int .i64 0]) ∧ Is w' exV y ∧ Below w.heap.size w w') := fun w A c h hc => by
    refine (decode_any A [7, 2, 4, 1, 5, 0] c w h (by decide) hc).mono ?_
    rintro e w' ⟨y, h1, h2, h3⟩
    rw [ex_dec] at h1 h2
    exact ⟨y, h1, IsP.is (fun _ h => h.2) _ _ h2, h3⟩
  have HS : Hid (∀ w A B c d, O.Byt w A [7, 2, 4, 1, 5, 0] → O.Byt w B [7, 2, 4, 1, 5, 0] → Calls Try.prog 11 #[.slice A 6 c, .slice B 6 d] w fun e w' => e = .returned (.bool true) ∧ w = w') := fun w A B c d hA hB => O.same_any A B [7, 2, 4, 1, 5, 0] c d w hA hB
  have HV : Hid (∀ w x y, Is w exV x → Is w exV y → Calls Try.prog 12 #[x.v, y.v] w fun e w' => e = .returned (.bool true) ∧ Below w.heap.size w w') := fun w x y h1 h2 => by
    have := refSame_any exV exV x y w h1 h2 ex_bulk
    rw [same_iff.2 rfl] at this
    exact this
  go_enter Try.func10, Try.ntmps10
  go_wp2_with fail
  have hb0 := below2d w (.cells #[.int .i64 3, .int .i64 1, .string ⟨#[]⟩, .slice none 0 0, .slice none 0 0, .int .i64 3, .int .i64 (-1), .string ⟨#[]⟩, .slice none 0 0, .slice none 0 0] 25) (.cells #[.int .i64 5, .int .i64 0, .string ⟨#[]⟩, .slice none 0 0, .slice (some ⟨w.heap.size, 0, none⟩) 2 2] 25)
  have hx := ex_is (old_row w (.cells #[.int .i64 3, .int .i64 1, .string ⟨#[]⟩, .slice none 0 0, .slice none 0 0, .int .i64 3, .int .i64 (-1), .string ⟨#[]⟩, .slice none 0 0, .slice none 0 0] 25) (.cells #[.int .i64 5, .int .i64 0, .string ⟨#[]⟩, .slice none 0 0, .slice (some ⟨w.heap.size, 0, none⟩) 2 2] 25))
  have hv := at_of_block (x := ⟨5, 0, ⟨#[]⟩, none, 0, 0, some ⟨w.heap.size, 0, none⟩, 2, 2⟩) (heap2d_at w (.cells #[.int .i64 3, .int .i64 1, .string ⟨#[]⟩, .slice none 0 0, .slice none 0 0, .int .i64 3, .int .i64 (-1), .string ⟨#[]⟩, .slice none 0 0, .slice none 0 0] 25) (.cells #[.int .i64 5, .int .i64 0, .string ⟨#[]⟩, .slice none 0 0, .slice (some ⟨w.heap.size, 0, none⟩) 2 2] 25))
  have hz : ((w.alloc (.cells #[.int .i64 3, .int .i64 1, .string ⟨#[]⟩, .slice none 0 0, .slice none 0 0, .int .i64 3, .int .i64 (-1), .string ⟨#[]⟩, .slice none 0 0, .slice none 0 0] 25)).alloc (.cells #[.int .i64 5, .int .i64 0, .string ⟨#[]⟩, .slice none 0 0, .slice (some ⟨w.heap.size, 0, none⟩) 2 2] 25)).heap.size = w.heap.size + 2 := by simp
  generalize (w.alloc (.cells #[.int .i64 3, .int .i64 1, .string ⟨#[]⟩, .slice none 0 0, .slice none 0 0, .int .i64 3, .int .i64 (-1), .string ⟨#[]⟩, .slice none 0 0, .slice none 0 0] 25)).alloc (.cells #[.int .i64 5, .int .i64 0, .string ⟨#[]⟩, .slice none 0 0, .slice (some ⟨w.heap.size, 0, none⟩) 2 2] 25) = w1 at *
  have HX := Lib.hid fun w' (hb : Below w1.heap.size w1 w') => Is.below hb _ _ hx
  have HAT : Hid (∀ w', Below w1.heap.size w1 w' → At w' (w.heap.size + 1) 0 ⟨5, 0, ⟨#[]⟩, none, 0, 0, some ⟨w.heap.size, 0, none⟩, 2, 2⟩) := fun w' hb => hv.below (by omega) hb
  have HB0 := Lib.hid hb0
  have HZ := Lib.hid hz
  clear hb0 hx hv hz
  refine (HE.out w1 ⟨5, 0, ⟨#[]⟩, none, 0, 0, some ⟨w.heap.size, 0, none⟩, 2, 2⟩ (HX.out _ (Below.refl _ _))).mono ?_
  rintro e w2 ⟨A, c, rfl, hc6, hY, hb2⟩
  have HB2 := Lib.hid hb2
  have HY := Lib.hid hY
  have HC6 := Lib.hid hc6
  clear hb2 hY hc6
  simp only [List.length_cons, List.length_nil]
  go_wp2_with fail
  refine (HD1.out _ _ ?b1).mono ?_
  case b1 => exact byt_new (hp_new rfl) rfl
  rintro e w3 ⟨⟨zk, zn, zs, zka, zkn, zkc, zla, zln, zlc⟩, rfl, hb3⟩
  have HB3 := Lib.hid (HB2.out.trans (((below_alloc w2 _).trans (hb3.mono (by simp))).mono HB2.out.size))
  have HY3 := Lib.hid (HY.out.below ((below_alloc w2 _).trans (hb3.mono (by simp))))
  clear hb3
  simp only [X.v]
  go_wp2_with fail
  refine (HD2.out _ _ _ ?b2 HC6.out).mono ?_
  case b2 => exact HY3.out.below (below_alloc _ _)
  rintro e w4 ⟨⟨yk, yn, ys, yka, ykn, ykc, yla, yln, ylc⟩, rfl, hy, hb4⟩
  have HY4 := Lib.hid ((HY3.out.below (below_alloc _ _)).below hb4)
  have HB4 := Lib.hid (HB3.out.trans (((below_alloc w3 _).trans (hb4.mono (by simp))).mono HB3.out.size))
  have HI4 := Lib.hid hy
  clear hb4 hy
  simp only [X.v]
  have HW5 := Lib.hid (below2d w4 (.cells #[.int .i64 yk, .int .i64 yn, .string ys, .slice yka ykn ykc, .slice yla yln ylc] 25) (.cells #[.int .u8 7, .int .u8 2, .int .u8 4, .int .u8 1, .int .u8 5, .int .u8 0] 5))
  have HL5 := Lib.hid (heap2d_at w4 (.cells #[.int .i64 yk, .int .i64 yn, .string ys, .slice yka ykn ykc, .slice yla yln ylc] 25) (.cells #[.int .u8 7, .int .u8 2, .int .u8 4, .int .u8 1, .int .u8 5, .int .u8 0] 5))
  have HX5 := Lib.hid (at_of_block (x := ⟨yk, yn, ys, yka, ykn, ykc, yla, yln, ylc⟩) (old_row w4 (.cells #[.int .i64 yk, .int .i64 yn, .string ys, .slice yka ykn ykc, .slice yla yln ylc] 25) (.cells #[.int .u8 7, .int .u8 2, .int .u8 4, .int .u8 1, .int .u8 5, .int .u8 0] 5)))
  obtain ⟨d0, d1, d2, d3, d4⟩ := HX5.out
  obtain ⟨v0, v1, v2, v3, v4⟩ := HAT.out _ (HB4.out.trans (HW5.out.mono HB4.out.size))
  go_wp2_with (first
    | (go_at_call 11; refine (HS.out _ _ _ _ _ ?b3 ?b4).mono ?_; (case b3 => exact HY4.out.below HW5.out); (case b4 => exact byt_new HL5.out rfl); rintro e w6 ⟨rfl, rfl⟩)
    | (go_at_call 12; refine (HV.out _ ⟨yk, yn, ys, yka, ykn, ykc, yla, yln, ylc⟩ ⟨5, 0, ⟨#[]⟩, none, 0, 0, some ⟨w.heap.size, 0, none⟩, 2, 2⟩ ?b5 ?b6).mono ?_; (case b5 => exact Is.below HW5.out _ _ HI4.out); (case b6 => exact HX.out _ (HB4.out.trans (HW5.out.mono HB4.out.size))); rintro e w7 ⟨rfl, hb7⟩))
  go_ret
  exact ⟨rfl, HB0.out.trans ((HB4.out.trans (HW5.out.mono HB4.out.size)).trans (hb7.mono (Nat.le_trans HB4.out.size HW5.out.size)) |>.mono HB0.out.size)⟩
end Go.Proofs.Ytnkknlhdbhfjlaa
