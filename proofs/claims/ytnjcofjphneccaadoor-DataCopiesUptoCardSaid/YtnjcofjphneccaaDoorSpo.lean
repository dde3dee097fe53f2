/-
  spoil, by contract.
-/
import Derived.Test.YtnjcofjphneccaaDoorCopy
import Derived.Test.YtnjcofjphneccaaDoorGet
namespace Go.Proofs.YtnjcofjphneccaaDoor
open Go.RowKit

def spX : X := ⟨77, 0, ⟨#[]⟩, none, 0, 0, none, 0, 0⟩
/-- a copy's memory, some of it spoilt -/
structure Sp (w : World) (T : Ty) (K : Ky) : Prop where
  t : ∀ n l, T n = some l → Typ w n 25 ∧ ∀ i (h : i < l.length), ∃ y, At w n (i * 5) y ∧ (Own1 T K l[i] y ∨ y = spX)
  k : ∀ n ks, K n = some ks → Typ w n 9 ∧ ∀ j, j < ks.length → ∃ s, w.cell? ⟨n, j, none⟩ = some (.string s)
def Cov (T : Ty) (K : Ky) (k : Nat) : Prop := T k ≠ none ∨ K k ≠ none
/-- what a call leaves as it was -/
def Off (B : Nat) (T : Ty) (K : Ky) (k : Nat) : Prop := k < B ∧ T k = none ∧ K k = none
section
variable {w w' : World} {T : Ty} {K : Ky}
theorem Sp.fr (h : Sp w T K) (hfr : Fr (Cov T K) w w') : Sp w' T K := by
  refine ⟨fun n l hn => ?_, fun n ks hn => ?_⟩
  · obtain ⟨e1, e2⟩ := h.t n l hn
    have hF : Cov T K n := .inl (by rw [hn]; simp)
    refine ⟨e1.fr hfr hF, fun i hi => ?_⟩
    obtain ⟨y, y1, y2⟩ := e2 i hi
    exact ⟨y, y1.fr hF hfr, y2⟩
  · obtain ⟨e1, e2⟩ := h.k n ks hn
    have hF : Cov T K n := .inr (by rw [hn]; simp)
    refine ⟨e1.fr hfr hF, fun j hj => ?_⟩
    obtain ⟨s, hs⟩ := e2 j hj
    exact ⟨s, (hfr.cell (p := ⟨n, j, none⟩) hF).trans hs⟩
theorem Sp.lt (h : Sp w T K) : ∀ k, Cov T K k → k < w.heap.size := by
  rintro k (hk | hk)
  · obtain ⟨l, hl⟩ := Option.ne_none_iff_exists'.1 hk
    exact (h.t k l hl).1.lt
  · obtain ⟨l, hl⟩ := Option.ne_none_iff_exists'.1 hk
    exact (h.k k l hl).1.lt
theorem Sp.below (h : Sp w T K) (hb : Below w.heap.size w w') : Sp w' T K := h.fr (Fr.of hb h.lt)
theorem Sp.put (h : Sp w T K) {n i : Nat} {l : List V} (hn : T n = some l) (hi : i < l.length) : Sp (put5 w n (i * 5) spX) T K := by
  have hfr := put5_fr w n (i * 5) spX
  obtain ⟨e1, e2⟩ := h.t n l hn
  refine ⟨fun m l' hm => ?_, fun m ks hm => ?_⟩
  · by_cases e : m = n
    · subst e
      rw [hn] at hm
      injection hm with hm
      subst hm
      refine ⟨put5_typ e1, fun j hj => ?_⟩
      obtain ⟨z, z1, z2⟩ := e2 j hj
      by_cases e : j = i
      · subst e
        exact ⟨spX, put5_same z1, .inr rfl⟩
      · exact ⟨z, put5_other z1 (by omega), z2⟩
    · obtain ⟨f1, f2⟩ := h.t m l' hm
      refine ⟨f1.fr hfr e, fun j hj => ?_⟩
      obtain ⟨z, z1, z2⟩ := f2 j hj
      exact ⟨z, z1.fr e hfr, z2⟩
  · obtain ⟨f1, f2⟩ := h.k m ks hm
    have e : m ≠ n := e1.ne f1
    refine ⟨f1.fr hfr e, fun j hj => ?_⟩
    obtain ⟨s, hs⟩ := f2 j hj
    exact ⟨s, (hfr.cell (p := ⟨m, j, none⟩) e).trans hs⟩
theorem Sp.key (h : Sp w T K) {n j : Nat} {ks : List ByteArray} (hn : K n = some ks) (hj : j < ks.length) (s : ByteArray) : Sp (w.setCell ⟨n, j, none⟩ (.string s)) T K := by
  have hfr : Fr (fun k => k ≠ n) w (w.setCell ⟨n, j, none⟩ (.string s)) := (Fr.refl _ w).setCell (p := ⟨n, j, none⟩) (by simp) _
  obtain ⟨e1, e2⟩ := h.k n ks hn
  refine ⟨fun m l' hm => ?_, fun m ks' hm => ?_⟩
  · obtain ⟨f1, f2⟩ := h.t m l' hm
    have e : m ≠ n := (f1.ne e1).symm
    refine ⟨f1.fr hfr e, fun j hj => ?_⟩
    obtain ⟨z, z1, z2⟩ := f2 j hj
    exact ⟨z, z1.fr e hfr, z2⟩
  · by_cases e : m = n
    · subst e
      rw [hn] at hm
      injection hm with hm
      subst hm
      obtain ⟨cur, hc⟩ := e1
      refine ⟨⟨_, hp_row_set hc _⟩, fun i hi => ?_⟩
      by_cases e : i = j
      · subst e
        obtain ⟨s0, h0⟩ := e2 i hj
        exact ⟨s, World.cell?_setCell_same _ _ _ h0⟩
      · obtain ⟨s0, h0⟩ := e2 i hi
        exact ⟨s0, (set_far (fun h => e h.symm)).trans h0⟩
    · obtain ⟨f1, f2⟩ := h.k m ks' hm
      refine ⟨f1.fr hfr e, fun i hi => ?_⟩
      obtain ⟨s0, h0⟩ := f2 i hi
      exact ⟨s0, (hfr.cell (p := ⟨m, i, none⟩) e).trans h0⟩
theorem Off.cov {B k : Nat} (h : Off B T K k) : ¬ Cov T K k := by
  rintro (hk | hk)
  · exact hk h.2.1
  · exact hk h.2.2
/-- what a copy is to begin with -/
theorem Copied.sp {v : V} {y : X} (h : Copied w w' v y T K) : Sp w' T K := by
  refine ⟨fun n l hn => ?_, fun n ks hn => ?_⟩
  · obtain ⟨_, _, e2, _⟩ := h.hp.t n l hn
    refine ⟨e2, fun i hi => ?_⟩
    obtain ⟨z, z1, z2⟩ := h.done n l hn i hi
    exact ⟨z, z1, .inl z2⟩
  · obtain ⟨_, e1, e2⟩ := h.hp.k n ks hn
    exact ⟨e1, fun j hj => ⟨_, e2 j hj⟩⟩
end

/-- what holds at a loop's head -/
structure Hd (w : World) (T : Ty) (K : Ky) (x : X) (wr : World) : Prop where
  sp : Sp wr T K
  box : wr.heap[w.heap.size]? = some (.cells x.cells 25 (0, 0))
  fr : Fr (Off w.heap.size T K) w wr
theorem Hd.off {w wr : World} {T : Ty} {K : Ky} {x : X} (h : Hd w T K x wr) (h0 : Sp w T K) : ∀ k, (Off w.heap.size T K k ∨ k = w.heap.size) → Off wr.heap.size T K k := by
  have hlt := (Array.getElem?_eq_some_iff.1 h.box).1
  have hs := h.fr.size
  rintro k (⟨h1, h2⟩ | rfl)
  · exact ⟨by omega, h2⟩
  · refine ⟨hlt, ?_, ?_⟩
    · exact Classical.byContradiction fun e => by have := h0.lt _ (.inl e); omega
    · exact Classical.byContradiction fun e => by have := h0.lt _ (.inr e); omega
theorem Hd.next {w wr w' : World} {T : Ty} {K : Ky} {x : X} (h : Hd w T K x wr) (h0 : Sp w T K) (hs : Sp w' T K) (hfr : Fr (Off wr.heap.size T K) wr w') : Hd w T K x w' :=
  ⟨hs, (hfr.block _ (h.off h0 _ (.inr rfl))).trans h.box, h.fr.trans (hfr.mono fun k hk => h.off h0 k (.inl hk))⟩
theorem put5_off {w : World} {T : Ty} {K : Ky} {n o : Nat} {y : X} (hn : T n ≠ none) : Fr (Off w.heap.size T K) w (put5 w n o y) := (put5_fr w n o y).mono fun k hk => by
  rintro rfl
  exact hn hk.2.1

set_option maxRecDepth 8000 in
set_option maxHeartbeats 1000000 in
theorem spoil_leaf (T : Ty) (K : Ky) (w : World) (h : Sp w T K) : Calls Tryd.prog 22 #[spX.v] w fun e w' => e = .returned (.tuple #[]) ∧ Sp w' T K ∧ Fr (Off w.heap.size T K) w w' := by
  unfold spX X.v
  simp only
  have HS := Lib.hid h
  clear h
  go_enter Tryd.func22, Tryd.ntmps22
  go_wp2_with fail
  go_loop [7] (fun i => i = .int .i64 0) (fun _ => 0)
  case atStart => rfl
  case round =>
    subst hrel
    go_wp2_with fail
    go_loop [18] (fun i => i = .int .i64 0) (fun _ => 0)
    case atStart => rfl
    case round =>
      subst hrel
      go_wp2_with fail
      go_end0
      exact ⟨rfl, HS.out.below (below_alloc w _), (Fr.refl _ w).alloc (fun k hk => hk.1) _⟩

set_option maxRecDepth 8000 in
set_option maxHeartbeats 2000000 in
theorem spoil_any (T : Ty) (K : Ky) : ∀ (v : V) (x : X) (w : World), Sp w T K → Own1 T K v x → v.bulk ≤ 4194304 →
    Calls Tryd.prog 22 #[x.v] w fun e w' => e = .returned (.tuple #[]) ∧ Sp w' T K ∧ Fr (Off w.heap.size T K) w w' := by
  refine V.ind fun k n s ks l ih => ?_
  intro x w h hx hbk
  obtain ⟨xk, xn, xs, xka, xkn, xkc, xla, xln, xlc⟩ := x
  obtain ⟨⟨h1, h2, h3⟩, ⟨h4, h5, h6⟩, h7, h8, h9⟩ := hx
  simp only [V.k, V.n, V.s, V.ks, V.l] at *
  subst h1 h2 h3 h4 h7
  have hbl : V.bulks l ≤ 4194304 := by
    simp only [V.bulk] at hbk
    omega
  have hll : l.length ≤ 4194304 := Nat.le_trans (length_le_bulks l) hbl
  have hkn : ks.length ≤ 4194304 := by
    have := length_le_keysBulk ks
    simp only [V.bulk] at hbk
    omega
  have HS := Lib.hid h
  have HD0 : Hid (Hd w T K ⟨xk, xn, xs, xka, ks.length, xkc, xla, l.length, xlc⟩ (w.alloc (.cells #[.int .i64 xk, .int .i64 xn, .string xs, .slice xka ks.length xkc, .slice xla l.length xlc] 25))) :=
    ⟨h.below (below_alloc w _), hp_new rfl, (Fr.refl _ w).alloc (fun k hk => hk.1) _⟩
  have H6 := Lib.hid h6
  have H9 := Lib.hid h9
  clear hbk h h6 h9
  unfold X.v
  simp only
  go_enter Tryd.func22, Tryd.ntmps22
  go_wp2_with fail
  go_loopw [7] (fun i wr => ∃ j : Nat, j ≤ ks.length ∧ i = .int .i64 j ∧ Hid (Hd w T K ⟨xk, xn, xs, xka, ks.length, xkc, xla, l.length, xlc⟩ wr)) (fun i _ => ks.length - (intOf i).toNat)
  case atStart => exact ⟨0, Nat.zero_le _, rfl, HD0⟩
  case round =>
    obtain ⟨j, hj, rfl, HD⟩ := hrel
    obtain ⟨c0, c1, c2, c3, c4⟩ := at_of_block HD.out.box
    by_cases hlt : j < ks.length
    · obtain ⟨m, rfl, hm⟩ : ∃ m, xka = some ⟨m, 0, none⟩ ∧ K m = some ks := by
        rcases H6.out with ⟨h, _⟩ | h
        · subst h
          simp at hlt
        · exact h
      obtain ⟨hty, hcs⟩ := HD.out.sp.k m ks hm
      obtain ⟨s0, hs0⟩ := hcs j hlt
      have hfz : wr.frozen? ⟨m, j, none⟩ = false := hty.free
      have HN : Hid (Hd w T K ⟨xk, xn, xs, some ⟨m, 0, none⟩, ks.length, xkc, xla, l.length, xlc⟩ (wr.setCell ⟨m, j, none⟩ (.string ⟨#[122, 122]⟩))) :=
        HD.out.next HS.out (HD.out.sp.key hm hlt _) ((Fr.refl _ wr).setCell (p := ⟨m, j, none⟩) (fun hk => by have := hk.2.2; rw [hm] at this; cases this) _)
      clear hty hcs
      go_wp2_with fail
      go_roundw
      case rel => exact ⟨j + 1, by omega, by go_num, HN⟩
      case measure => simp [intOf]; omega
    · obtain rfl : j = ks.length := by omega
      go_wp2_with fail
      clear c0 c1 c2 c3 c4
      have HD1 := HD
      clear HD hlt hj
      obtain ⟨wo, rfl⟩ : ∃ wo : World, wo = wr := ⟨_, rfl⟩
      go_loopw [18] (fun i wr => ∃ j : Nat, j ≤ l.length ∧ i = .int .i64 j ∧ Hid (Hd w T K ⟨xk, xn, xs, xka, ks.length, xkc, xla, l.length, xlc⟩ wr)) (fun i _ => l.length - (intOf i).toNat)
      case atStart => exact ⟨0, Nat.zero_le _, rfl, HD1⟩
      case round =>
        obtain ⟨j, hj, rfl, HD⟩ := hrel
        obtain ⟨c0, c1, c2, c3, c4⟩ := at_of_block HD.out.box
        by_cases hlt : j < l.length
        · obtain ⟨m, rfl, hm⟩ : ∃ m, xla = some ⟨m, 0, none⟩ ∧ T m = some l := by
            rcases H9.out with ⟨h, _⟩ | h
            · subst h
              simp at hlt
            · exact h
          obtain ⟨hty, hcs⟩ := HD.out.sp.t m l hm
          obtain ⟨y, hy, hu⟩ := hcs j hlt
          have HC : Hid (Calls Tryd.prog 22 #[y.v] wr fun e w' => e = .returned (.tuple #[]) ∧ Sp w' T K ∧ Fr (Off wr.heap.size T K) wr w') := by
            rcases hu with hu | rfl
            · exact ih _ (List.getElem_mem hlt) y wr HD.out.sp hu (Nat.le_trans (bulk_le_of_mem (List.getElem_mem hlt)) hbl)
            · exact spoil_leaf T K wr HD.out.sp
          have HNX := Lib.hid fun w' (hs : Sp w' T K) (hfr : Fr (Off wr.heap.size T K) wr w') => HD.out.next HS.out hs hfr
          have HM := Lib.hid hm
          have HBE := Lib.hid fun w' (hs : Sp w' T K) => (hs.t m l hm).2 j hlt
          have HTY := Lib.hid fun w' (hs : Sp w' T K) => (hs.t m l hm).1
          have HPU := Lib.hid fun w' (hs : Sp w' T K) => hs.put hm hlt
          have HPO : Hid (∀ w', Fr (Off w'.heap.size T K) w' (put5 w' m (j * 5) spX)) := fun w' => put5_off (by rw [hm]; simp)
          obtain ⟨yk, yn, yS, yka, ykn, ykc, yla, yln, ylc⟩ := y
          obtain ⟨d0, d1, d2, d3, d4⟩ := hy
          simp only [X.v] at *
          clear hty hcs hu hm HD
          go_upto_region 9 with (fail)
          go_wp2_with fail
          refine HC.out.mono ?_
          rintro e w2 ⟨rfl, hs2, hf2⟩
          have HN2 := Lib.hid (HNX.out w2 hs2 hf2)
          have HS2 := Lib.hid hs2
          clear c0 c1 c2 c3 c4 d0 d1 d2 d3 d4 hf2 hs2
          obtain ⟨c0, c1, c2, c3, c4⟩ := at_of_block HN2.out.box
          obtain ⟨z, ⟨d0, d1, d2, d3, d4⟩, _⟩ := HBE.out w2 HS2.out
          have hty := HTY.out w2 HS2.out
          have f0 := hty.free (o := j * 5)
          have f1 := hty.free (o := j * 5 + 1)
          have f2 := hty.free (o := j * 5 + 2)
          have f3 := hty.free (o := j * 5 + 3)
          have f4 := hty.free (o := j * 5 + 4)
          obtain ⟨zk, zn, zS, zka, zkn, zkc, zla, zln, zlc⟩ := z
          simp only at *
          clear hty
          go_wp2_with fail
          rw [← put5_lit']
          have HN3 := Lib.hid (HN2.out.next HS.out (HPU.out w2 HS2.out) (HPO.out w2))
          unfold spX at HN3
          go_roundw
          case rel => exact ⟨j + 1, by omega, by go_num, HN3⟩
          case measure => simp [intOf]; omega
        · obtain rfl : j = l.length := by omega
          clear HD1
          go_wp2_with fail
          go_end0
          exact ⟨rfl, HD.out.sp, HD.out.fr⟩
end Go.Proofs.YtnjcofjphneccaaDoor
