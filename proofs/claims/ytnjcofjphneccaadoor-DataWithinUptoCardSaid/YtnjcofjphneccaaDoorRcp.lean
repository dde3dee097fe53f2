/-
  The reference's Copy, by contract.
-/
import Derived.Test.YtnjcofjphneccaaDoorIsp
import Derived.Test.YtnjcofjphneccaaDoorCopy
import Derived.Deep.RegionLaw
import Derived.Deep.RegionHeld3
namespace Go.Proofs.YtnjcofjphneccaaDoor
open Go.RowKit

theorem own_any {w w' : World} {B n size : Nat} {e : TypeId} {v : Value} {xs : List Value} (h : w.ownsRow B e size v n xs) (hb : ∀ k, v.ownBlock = some k → w'.heap[k]? = w.heap[k]?) : w'.ownsRow B e size v n xs := by
  refine ⟨h.1, ?_⟩
  rcases h.2 with h2 | ⟨g, cap, cur, rfl, hb', hg, r⟩
  · exact .inl h2
  · exact .inr ⟨g, cap, cur, rfl, hb', by rw [hb g rfl]; exact hg, r⟩
/-- a struct is appended, as one step of a statement that leaves its order open -/
theorem step_push5 {ops : Array Oper} {o : Oper} {a : Act} {w : World} {K : Act → World → Prop} {Q : Exit → Act → World → Prop} {E : Prop} (hgd : o.guard = none) (s x : Operand)
    (ho : o.op = .call { callee := .builtin .append, args := #[s, x], argTypes := #[23, 23] })
    (i : TypeInfo) (hi : Tryd.prog.info? 25 = some i) (hz : i.zero = some (.agg #[.int .i64 0, .int .i64 0, .string ⟨#[]⟩, .slice none 0 0, .slice none 0 0])) (hsize : i.size = 5) (hby : i.bytes = 80)
    (wr : World) (base : Nat) (lA : Option Addr) (n lC : Nat) (xs : List Value) (hs : a.eval s = .slice lA n lC) (hown : wr.ownsRow base 25 5 (.slice lA n lC) n xs) (hbase : base ≤ w.heap.size) (hbel : ∀ k, k < wr.heap.size → w.heap[k]? = wr.heap[k]?)
    (B : Nat) (y : X) (hx : a.eval x = .slice (some ⟨B, 0, none⟩) 1 1) (hblk : w.heap[B]? = some (.cells y.cells 25 (0, 0)))
    (hn : n ≤ 4194304) (H : Nat) (hH : w.heap.size = H)
    (S : World → Prop) (hS : ∀ w', (∀ k, k < wr.heap.size → some k ≠ (Value.slice lA n lC).ownBlock → w'.heap[k]? = wr.heap[k]?) → S w')
    (h : ∀ g cap w', S w' → w'.ownsRow base 25 5 (.slice (some ⟨g, 0, none⟩) (n + 1) cap) (n + 1) (xs ++ y.cells.toList) → w.grownBy w' (Value.slice lA n lC).ownBlock → ((Value.slice lA n lC).ownBlock = some g ∨ g = H) → g < w'.heap.size → K (a.put o.dst (.slice (some ⟨g, 0, none⟩) (n + 1) cap)) w')
    (hle : wr.heap.size ≤ w.heap.size) :
    if Region.wanted o (yielded ops a.tmps) = true then Oper.wp Tryd.prog o a w K Q else E :=
  step_append_lies w hgd s x 23 ho base 25 i _ 5 80 Tryd.underlying23 hi hz hsize hby rfl (by decide) _ n xs hs (own_any hown fun k hk => hbel k (hown.lt k hk).2) ⟨B, 0, none⟩ 1 1 y.cells.toList hx rfl
    (World.news_of_block hblk) (by intro u hu; simp [X.cells] at hu; rcases hu with rfl | rfl | rfl | rfl | rfl <;> rfl) (by decide) (by unfold maxLen; omega) (by omega) hbase H hH
    fun g cap w' h1 h2 h3 h4 => h g cap w' (hS w' fun k hk hne => (h2.block k (Nat.lt_of_lt_of_le hk hle) hne).trans (hbel k hk)) h1 h2 h3 h4

/-- behind the reference's first statement -/
structure Md (W0 wx : World) (sg : Nat) (k n : Int) (s : ByteArray) (ks : List ByteArray) (kA : Option Addr) (kC : Nat) : Prop where
  ge : W0.heap.size ≤ sg
  row : wx.heap[sg]? = some (.cells #[.int .i64 k, .int .i64 n, .string s, .slice kA ks.length kC, .slice none 0 0] 25 (0, 0))
  bel : Below W0.heap.size W0 wx
  keys : KeysNew W0 wx kA ks
  cap : ks.length ≤ kC
  ne : ∀ m, kA = some ⟨m, 0, none⟩ → m ≠ sg
theorem md_of {W0 wm w2 : World} {sg : Nat} {k n : Int} {s : ByteArray} {ks : List ByteArray} {kA : Option Addr} {kC : Nat} (h1 : W0.heap.size ≤ sg) (h2 : Below W0.heap.size W0 w2) (hm : W0.heap.size ≤ wm.heap.size) (hz : w2.heap[sg]? = some zrow)
    (hk : KeysNew wm w2 kA ks) (hc : ks.length ≤ kC) (hs : ∀ m, kA = some ⟨m, 0, none⟩ → m ≠ sg) : Md W0 (put5 w2 sg 0 ⟨k, n, s, kA, ks.length, kC, none, 0, 0⟩) sg k n s ks kA kC := by
  have hfr := put5_fr w2 sg 0 ⟨k, n, s, kA, ks.length, kC, none, 0, 0⟩
  refine ⟨h1, put5_row hz _, h2.trans (hfr.mono fun q (hq : q < W0.heap.size) => by show q ≠ sg; omega).below, ?_, hc, hs⟩
  rcases hk with h | ⟨m, cur, e1, e2, e3, e4, e5⟩
  · exact .inl h
  · have := hs m e1
    exact .inr ⟨m, cur, e1, by omega, Nat.lt_of_lt_of_le e3 hfr.size, (hfr.block m this).trans e4, fun j hj => (hfr.cell (p := ⟨m, j, none⟩) this).trans (e5 j hj)⟩
theorem md_new {W0 wm w2 : World} {k n : Int} {s : ByteArray} {ks : List ByteArray} {kA : Option Addr} {kC : Nat} (h2 : Below W0.heap.size W0 w2) (hm : W0.heap.size ≤ wm.heap.size)
    (hk : KeysNew wm w2 kA ks) (hc : ks.length ≤ kC) : Md W0 (w2.alloc (.cells #[.int .i64 k, .int .i64 n, .string s, .slice kA ks.length kC, .slice none 0 0] 25)) w2.heap.size k n s ks kA kC := by
  refine ⟨h2.size, hp_new rfl, h2.trans ((below_alloc _ _).mono h2.size), ?_, hc, fun m hm => ?_⟩
  · exact KeysNew.of (hk.to (below_alloc _ _)) hm
  · rcases hk with ⟨_, h⟩ | ⟨m', cur, e1, e2, e3, _⟩
    · rw [h] at hm
      cases hm
    · rw [e1] at hm
      have : m' = m := by simpa using hm
      omega
theorem KeysNew.lt {w w' : World} {A : Option Addr} {ks : List ByteArray} (h : KeysNew w w' A ks) : ∀ m, A = some ⟨m, 0, none⟩ → w.heap.size ≤ m ∧ m < w'.heap.size := by
  intro m hm
  rcases h with ⟨_, h⟩ | ⟨m', cur, e1, e2, e3, _⟩
  · rw [h] at hm
    cases hm
  · rw [e1] at hm
    have : m' = m := by simpa using hm
    subst this
    exact ⟨e2, e3⟩
/-- what the loop has made, put into the result -/
theorem Cp.done {w W0 w1 wr : World} {sg : Nat} {k n : Int} {s : ByteArray} {ks : List ByteArray} {kA lA : Option Addr} {kC lC : Nat} {l : List V} {ys : List X} (hw : w.heap.size + 2 ≤ W0.heap.size) (hm : Md W0 w1 sg k n s ks kA kC)
    (h : Cp w1 sg (.int .i64 k) (.int .i64 n) (.string s) (.slice kA ks.length kC) l l.length wr lA lC ys) :
    IsP wr (fun g => w.heap.size + 2 ≤ g ∧ g < wr.heap.size) (.mk k n s ks l) ⟨k, n, s, kA, ks.length, kC, lA, l.length, lC⟩ := by
  have hs1 := hm.bel.size
  have hs2 := h.fr.size
  rw [isP_iff]
  refine ⟨⟨rfl, rfl, rfl⟩, ⟨rfl, hm.cap, ?_⟩, rfl, ?_, ?_⟩
  · rcases id hm.keys with ⟨h0, _⟩ | ⟨m, cur, e1, e2, e3, _, e5⟩
    · exact .inl h0
    · have hF : m < w1.heap.size ∧ m ≠ sg := ⟨e3, hm.ne m e1⟩
      exact .inr ⟨m, 0, e1, ⟨by omega, by omega⟩, fun j hj => by rw [Nat.zero_add]; exact (h.fr.cell (p := ⟨m, j, none⟩) hF).trans (e5 j hj)⟩
  · show l.length ≤ lC
    rcases h.own.2 with ⟨hv, h0⟩ | ⟨g, cap, cur, hv, _, _, hn, _⟩
    · injection hv with _ hv _
      omega
    · injection hv with _ _ hv
      omega
  · by_cases h0 : l = []
    · exact .inl h0
    · have hpos : 0 < l.length := List.length_pos_iff.2 h0
      obtain ⟨g, cap, hv, hb, hg⟩ := h.own.form hpos
      injection hv with e1 _ e3
      subst e1 e3
      refine .inr ⟨g, 0, rfl, ⟨by omega, hg⟩, (isAllP_iff _ _ _ _ _).2 fun i hi => ?_⟩
      have hi' : i < ys.length := by rw [h.len]; exact hi
      refine ⟨ys[i], ?_, IsP.fr (Fr.refl _ _) (fun g hg => ⟨by omega, hg.2.1⟩) _ _ (h.kid i hi' hi)⟩
      refine flat5_row.2 (fun j u hu => ?_) i hi'
      have := h.own.cells (g := g) rfl j u hu
      rw [addr_add] at this
      exact this
theorem zrow_cells {w : World} {g : Nat} (h : w.heap[g]? = some zrow) : w.cell? ⟨g, 0, none⟩ = some (.int .i64 0) ∧ w.cell? ⟨g, 1, none⟩ = some (.int .i64 0) ∧ w.cell? ⟨g, 2, none⟩ = some (.string ⟨#[]⟩) ∧ w.cell? ⟨g, 3, none⟩ = some (.slice none 0 0) ∧ w.cell? ⟨g, 4, none⟩ = some (.slice none 0 0) ∧ ∀ o, w.frozen? ⟨g, o, none⟩ = false := by
  unfold zrow at h
  refine ⟨?_, ?_, ?_, ?_, ?_, fun o => by simp [World.frozen?, h]⟩
  · rw [cell_of_row w g 0 _ _ _ h]; rfl
  · rw [cell_of_row w g 1 _ _ _ h]; rfl
  · rw [cell_of_row w g 2 _ _ _ h]; rfl
  · rw [cell_of_row w g 3 _ _ _ h]; rfl
  · rw [cell_of_row w g 4 _ _ _ h]; rfl

theorem far_put5 {w : World} {g b o : Nat} {y : X} (h : b ≠ g) : (put5 w g 0 y).cell? ⟨b, o, none⟩ = w.cell? ⟨b, o, none⟩ := (put5_fr w g 0 y).cell (p := ⟨b, o, none⟩) h
theorem keep4 (w : World) (g b : Nat) (k n : Int) (s : ByteArray) (ka : Option Addr) (kn kc : Nat) {v0 v1 v2 v3 : Option Value} (h : b ≠ g) (h0 : w.cell? ⟨b, 0, none⟩ = v0) (h1 : w.cell? ⟨b, 0 + 1, none⟩ = v1) (h2 : w.cell? ⟨b, 0 + 2, none⟩ = v2) (h3 : w.cell? ⟨b, 0 + 3, none⟩ = v3) :
    (((((w.setCell ⟨g, 0, none⟩ (.int .i64 k)).setCell ⟨g, 1, none⟩ (.int .i64 n)).setCell ⟨g, 2, none⟩ (.string s)).setCell ⟨g, 3, none⟩ (.slice ka kn kc)).setCell ⟨g, 4, none⟩ (.slice none 0 0)).cell? ⟨b, 0, none⟩ = v0 ∧
    (((((w.setCell ⟨g, 0, none⟩ (.int .i64 k)).setCell ⟨g, 1, none⟩ (.int .i64 n)).setCell ⟨g, 2, none⟩ (.string s)).setCell ⟨g, 3, none⟩ (.slice ka kn kc)).setCell ⟨g, 4, none⟩ (.slice none 0 0)).cell? ⟨b, 0 + 1, none⟩ = v1 ∧
    (((((w.setCell ⟨g, 0, none⟩ (.int .i64 k)).setCell ⟨g, 1, none⟩ (.int .i64 n)).setCell ⟨g, 2, none⟩ (.string s)).setCell ⟨g, 3, none⟩ (.slice ka kn kc)).setCell ⟨g, 4, none⟩ (.slice none 0 0)).cell? ⟨b, 0 + 2, none⟩ = v2 ∧
    (((((w.setCell ⟨g, 0, none⟩ (.int .i64 k)).setCell ⟨g, 1, none⟩ (.int .i64 n)).setCell ⟨g, 2, none⟩ (.string s)).setCell ⟨g, 3, none⟩ (.slice ka kn kc)).setCell ⟨g, 4, none⟩ (.slice none 0 0)).cell? ⟨b, 0 + 3, none⟩ = v3 := by
  rw [← put5_lit, far_put5 h, far_put5 h, far_put5 h, far_put5 h]
  exact ⟨h0, h1, h2, h3⟩

set_option maxRecDepth 8000 in
set_option maxHeartbeats 2000000 in
theorem refCopy_any : ∀ (v : V) (x : X) (w : World), Is w v x → v.bulk ≤ 4194304 →
    Calls Tryd.prog 32 #[x.v] w fun e w' => ∃ y, e = .returned y.v ∧ IsP w' (fun g => w.heap.size ≤ g ∧ g < w'.heap.size) v y ∧ Below w.heap.size w w' := by
  obtain ⟨i1, hi1, hz1, hs1, hb1⟩ := info_parts infoStr
  obtain ⟨i5, hi5, hz5, hs5, hb5⟩ := info_parts infoData
  refine V.ind fun k n s ks l ih => ?_
  intro x w h hbk
  obtain ⟨ka, kc, la, lc, rfl, h1, h2, h3, h4⟩ := h.open
  simp only [V.k, V.n, V.s, V.ks, V.l] at *
  have hbl : V.bulks l ≤ 4194304 := by
    simp only [V.bulk] at hbk
    omega
  have hll : l.length ≤ 4194304 := Nat.le_trans (length_le_bulks l) hbl
  have hkn : ks.length ≤ 4194304 := by
    have := length_le_keysBulk ks
    simp only [V.bulk] at hbk
    omega
  clear hbk h
  obtain ⟨W0, hW0⟩ : ∃ W0, W0 = (w.alloc (.cells #[.int .i64 k, .int .i64 n, .string s, .slice ka ks.length kc, .slice la l.length lc] 25)).alloc (.cells #[.int .i64 0, .int .i64 0, .string ⟨#[]⟩, .slice none 0 0, .slice none 0 0] 25) := ⟨_, rfl⟩
  obtain ⟨β, hβ⟩ : ∃ β, β = w.heap.size := ⟨_, rfl⟩
  obtain ⟨ρ, hρ⟩ : ∃ ρ, ρ = w.heap.size + 1 := ⟨_, rfl⟩
  have HB0 : Hid (Below w.heap.size w W0) := by
    subst hW0
    exact (below_alloc w _).trans ((below_alloc _ _).mono (by simp))
  have hz0 : W0.heap.size = w.heap.size + 2 := by subst hW0; simp
  have HZ0 := Lib.hid hz0
  have HX0 : Hid (At W0 β 0 ⟨k, n, s, ka, ks.length, kc, la, l.length, lc⟩) := by
    subst hW0 hβ
    exact ⟨by simp, by simp, by simp, by simp, by simp⟩
  have HR0 : Hid (W0.heap[ρ]? = some zrow) := by
    subst hW0 hρ
    exact hp_new (by simp)
  have hβ1 : β < W0.heap.size := by omega
  have hρ1 : ρ < W0.heap.size := by omega
  have HS0 : Hid (∀ w', Below W0.heap.size W0 w' → At w' β 0 ⟨k, n, s, ka, ks.length, kc, la, l.length, lc⟩) := fun w' hb => HX0.out.below hβ1 hb
  have hstr : Hid (∀ w', Below W0.heap.size W0 w' → (ks.length = 0 ∨ ∃ ad, ka = some ad ∧ ∀ j u, (ks.map Value.string)[j]? = some u → w'.cell? (ad.add j) = some u)) := fun w' hb => by
    rcases h3 with h3 | ⟨g, o, rfl, hg, hk⟩
    · exact .inl (by rw [h3]; rfl)
    · refine .inr ⟨_, rfl, fun j u hu => ?_⟩
      rw [addr_add]
      rw [List.getElem?_map] at hu
      obtain ⟨key, hkey, rfl⟩ := Option.map_eq_some_iff.1 hu
      obtain ⟨hj, rfl⟩ := List.getElem?_eq_some_iff.1 hkey
      have hg' : g < w.heap.size := hg
      exact ((hb.cell (p := ⟨g, o + j, none⟩) (by show g < W0.heap.size; omega)).trans (HB0.out.cell (p := ⟨g, o + j, none⟩) hg)).trans (hk j hj)
  have HBR := Lib.hid hβ
  have HRR := Lib.hid hρ
  unfold X.v
  simp only
  obtain ⟨c0, c1, c2, c3, c4⟩ := HS0.out W0 (Below.refl _ _)
  have hne0 : β ≠ W0.heap.size := by omega
  clear hz0
  go_enter Tryd.func32, Tryd.ntmps32
  go_upto_region 1 with (fail)
  rw [← hρ, ← hβ, ← hW0]
  clear hW0 hβ hρ
  go_cut [3] (fun s3 wx => ∃ sg kA kC, s3 = .pointer (some ⟨sg, 0, none⟩) ∧ Hid (Md W0 wx sg k n s ks kA kC))
  case first =>
    go_region_held3 (fun w' => w'.cell? ⟨β, 0, none⟩ = some (.int .i64 k) ∧ w'.cell? ⟨β, 0 + 1, none⟩ = some (.int .i64 n) ∧ w'.cell? ⟨β, 0 + 2, none⟩ = some (.string s) ∧ w'.cell? ⟨β, 0 + 3, none⟩ = some (.slice ka ks.length kc))
      (first | (with_reducible exact keep4 w2 _ _ k n s kA ks.length kC hne0 d0 d1 d2 d3) | (with_reducible exact keep4 _ _ _ k n s kA ks.length kC hne2 (old_alloc d0) (old_alloc d1) (old_alloc d2) (old_alloc d3)) | go_keep)
      ((first
        | (refine step_fresh rfl _ _ 22 (by rfl) 9 i1 _ 1 16 Tryd.underlying22 hi1 hz1 hs1 hb1 rfl (by decide) (by rfl) ka ks.length kc (by rfl) (ks.map Value.string) (by simp) (hstr.out _ (by first | exact (Below.refl _ _).drew | exact (Below.refl _ _).drew.alloc (Nat.le_refl _) _)) (by simp [Value.oneCell']) hkn (by decide) ?_; intro kA kC w2 hb2 hfr; have hB2 : Below W0.heap.size W0 w2 := (by first | exact (Below.refl _ _).drew.trans hb2 | exact ((Below.refl _ _).drew.alloc (Nat.le_refl _) _).trans (hb2.mono (by simp))); obtain ⟨d0, d1, d2, d3, d4⟩ := HS0.out w2 hB2; have hne2 : β ≠ w2.heap.size := (by have := hB2.size; omega); (first | (have hz2 : w2.heap[W0.heap.size]? = some zrow := (hb2.block _ (by simp)).trans (hp_new (by simp)); obtain ⟨e0, e1, e2, e3, e4, e5⟩ := zrow_cells hz2; have f0 := e5 0; have f1 := e5 1; have f2 := e5 2; have f3 := e5 3; have f4 := e5 4; have hz2' := Lib.hid hz2; clear hz2 e5) | skip))))
    · go_wp2_with fail
      go_meet
      exact ⟨_, kA, kC, rfl, md_new hB2 (Nat.le_refl _) hfr.out.keys hfr.out.lt⟩
    · rw [← put5_lit]
      go_wp2_with fail
      go_meet
      refine ⟨_, kA, kC, rfl, md_of (Nat.le_refl _) hB2 (by simp) hz2'.out hfr.out.keys hfr.out.lt fun m hm => ?_⟩
      have := (hfr.out.keys.lt m hm).1
      simp at this
      omega
  case rest =>
    obtain ⟨sg, kA, kC, rfl, HMD⟩ := hcut
    clear c0 c1 c2 c3 c4 hstr hne0 hβ1
    have hbx : Below W0.heap.size W0 wc := HMD.out.bel
    obtain ⟨c0, c1, c2, c3, c4⟩ := HS0.out wc hbx
    have HBX := Lib.hid hbx
    have hsgl : sg < wc.heap.size := (Array.getElem?_eq_some_iff.1 HMD.out.row).1
    have HCP0 : Hid (Cp wc sg (.int .i64 k) (.int .i64 n) (.string s) (.slice kA ks.length kC) l 0 wc none 0 []) :=
      ⟨hsgl, Fr.refl _ _, HMD.out.row, ⟨rfl, .inl ⟨rfl, rfl⟩⟩, rfl, fun i hi => by simp at hi⟩
    clear hbx hsgl HS0 HX0
    go_wp2_with fail
    clear c0 c1 c2 c3 c4
    go_loopw [19] (fun i wr => ∃ j : Nat, j ≤ l.length ∧ i = .int .i64 j ∧ ∃ lA lC ys, Hid (Cp wc sg (.int .i64 k) (.int .i64 n) (.string s) (.slice kA ks.length kC) l j wr lA lC ys))
      (fun i _ => l.length - (intOf i).toNat)
    case atStart => exact ⟨0, Nat.zero_le _, rfl, none, 0, [], HCP0⟩
    case round =>
      obtain ⟨j, hj, rfl, lA, lC, ys, HCP⟩ := hrel
      have HWR : Hid (Below w.heap.size w wr) := by
        have h1 := HB0.out.trans (HBX.out.mono HB0.out.size)
        refine h1.trans (HCP.out.fr.mono fun q (hq : q < w.heap.size) => ⟨?_, ?_⟩).below
        · have := h1.size
          omega
        · have h2 := HMD.out.ge
          have h3 := HB0.out.size
          omega
      by_cases hlt : j < l.length
      · obtain ⟨g, o, rfl, hg, y, hy, hv⟩ := h4.at_ hlt
        have hy' := hy.below hg HWR.out
        obtain ⟨c0, c1, c2, c3, c4⟩ := hy'
        have HR := Lib.hid fun w' (hb : Below w.heap.size w w') => ih l[j] (List.getElem_mem hlt) _ w' (Is.below hb _ _ hv) (Nat.le_trans (bulk_le_of_mem (List.getElem_mem hlt)) hbl)
        have HVJ := Lib.hid (rfl : l[j] = l[j])
        have HST := Lib.hid fun wa w2 w3 (z : X) g cap h1 h2 h3 h4 h5 h6 => HCP.out.step hlt (wa := wa) (w2 := w2) (w3 := w3) (y := z) (g := g) (cap := cap) h1 h2 h3 h4 h5 h6
        have HOW := Lib.hid HCP.out.own
        have hsgr : sg < wr.heap.size := (Array.getElem?_eq_some_iff.1 HCP.out.row).1
        have hwc : wc.heap.size ≤ wr.heap.size := HCP.out.fr.size
        have hsn : some sg ≠ (Value.slice lA j lC).ownBlock := fun e => by
          have h1 := HCP.out.lt
          have h2 := (HCP.out.own.lt sg e.symm).1
          omega
        have HSS : Hid (∀ w' : World, (∀ k, k < wr.heap.size → some k ≠ (Value.slice lA j lC).ownBlock → w'.heap[k]? = wr.heap[k]?) → w'.cell? ⟨sg, 4, none⟩ = some (.slice lA j lC) ∧ w'.frozen? ⟨sg, 4, none⟩ = false) := fun w' hw => by
          have h1 := (hw sg hsgr hsn).trans HCP.out.row
          exact ⟨by rw [cell_of_row w' sg 4 _ _ _ h1]; rfl, by simp [World.frozen?, h1]⟩
        obtain ⟨yk, yn, ys0, yka, ykn, ykc, yla, yln, ylc⟩ := y
        simp only [X.v] at *
        obtain ⟨wb, hwb⟩ : ∃ wb, wb = wr.alloc (.cells #[.int .i64 yk, .int .i64 yn, .string ys0, .slice yka ykn ykc, .slice yla yln ylc] 25) := ⟨_, rfl⟩
        obtain ⟨δ, hδ⟩ : ∃ δ, δ = wr.heap.size := ⟨_, rfl⟩
        have HWB : Hid (Below wr.heap.size wr wb) := by subst hwb; exact below_alloc wr _
        have HWW : Hid (Below w.heap.size w wb) := HWR.out.trans (HWB.out.mono HWR.out.size)
        obtain ⟨d0, d1, d2, d3, d4⟩ : At wb δ 0 ⟨yk, yn, ys0, yka, ykn, ykc, yla, yln, ylc⟩ := by
          subst hwb hδ
          exact at_of_block (hp_new rfl)
        have s4 : wb.cell? ⟨sg, 4, none⟩ = some (.slice lA j lC) := (HSS.out wb fun k hk _ => HWB.out.block k hk).1
        have hjn : j ≤ 4194304 := by omega
        clear hsn hy hv HCP hsgr
        go_wp2_with fail
        rw [← hwb, ← hδ]
        clear hwb hδ c0 c1 c2 c3 c4
        go_region_law
          ((first
            | (go_simp; go_at_call 32; refine (HR.out _ HWW.out.drew).mono ?_; rintro e w2 ⟨⟨zk, zn, zs, zka, zkn, zkc, zla, zln, zlc⟩, rfl, hz, hb2⟩; have HK2 : Hid (Below wr.heap.size wr w2) := HWB.out.drew.trans (hb2.mono HWB.out.size); have s42 := (HSS.out w2 fun k hk _ => HK2.out.block k hk).1; have s43 : (w2.alloc (.cells #[.int .i64 zk, .int .i64 zn, .string zs, .slice zka zkn zkc, .slice zla zln zlc] 25)).cell? ⟨sg, 4, none⟩ = some (.slice lA j lC) := old_alloc s42; have HZZ := Lib.hid hz; have HB22 := Lib.hid hb2; clear hz hb2)
            | (refine step_push5 rfl _ _ (by rfl) i5 hi5 hz5 hs5 hb5 wr wc.heap.size lA j lC _ (by rfl) HOW.out ?b1 ?b2 w2.heap.size ⟨zk, zn, zs, zka, zkn, zkc, zla, zln, zlc⟩ (by rfl) ?b3 hjn (w2.heap.size + 1) ?b4 _ HSS.out ?_ ?b5; (case b1 => have := HK2.out.size; simp; omega); (case b2 => intro k hk; rw [Below.heap_alloc _ _ _ (Nat.lt_of_lt_of_le hk HK2.out.size)]; exact HK2.out.block k hk); (case b3 => exact hp_new rfl); (case b4 => simp); (case b5 => have := HK2.out.size; simp; omega); rintro g' cap' w3 ⟨e1, e2⟩ hown3 hgrow hat hlt3)))
        all_goals
          have HN := Lib.hid (HST.out _ _ _ _ _ _ HWB.out.drew HB22.out HZZ.out hown3 hgrow hat)
          clear hown3 hgrow hat hlt3 e1 e2 HST HSS HOW s42 s43 s4 d0 d1 d2 d3 d4 HB22 HZZ HK2
          generalize w3.setCell ⟨sg, 4, none⟩ (.slice (some ⟨g', 0, none⟩) (j + 1) cap') = w4 at *
          go_wp2_with fail
          go_roundw
          case rel => exact ⟨j + 1, by omega, by go_num, _, _, _, HN⟩
          case measure => simp [intOf]; omega
      · obtain rfl : j = l.length := by omega
        have hsg := HCP.out.row
        have s0 : wr.cell? ⟨sg, 0, none⟩ = some (.int .i64 k) := by rw [cell_of_row wr sg 0 _ _ _ hsg]; rfl
        have s1 : wr.cell? ⟨sg, 1, none⟩ = some (.int .i64 n) := by rw [cell_of_row wr sg 1 _ _ _ hsg]; rfl
        have s2 : wr.cell? ⟨sg, 2, none⟩ = some (.string s) := by rw [cell_of_row wr sg 2 _ _ _ hsg]; rfl
        have s3 : wr.cell? ⟨sg, 3, none⟩ = some (.slice kA ks.length kC) := by rw [cell_of_row wr sg 3 _ _ _ hsg]; rfl
        have s4 : wr.cell? ⟨sg, 4, none⟩ = some (.slice lA l.length lC) := by rw [cell_of_row wr sg 4 _ _ _ hsg]; rfl
        have hzr : wr.heap[ρ]? = some zrow := by
          have h1 := HMD.out.ge
          have h2 := HBX.out.size
          rw [HCP.out.fr.block ρ ⟨by omega, by omega⟩, HBX.out.block ρ hρ1]
          exact HR0.out
        obtain ⟨e0, e1, e2, e3, e4, e5⟩ := zrow_cells hzr
        have f0 := e5 0
        have f1 := e5 1
        have f2 := e5 2
        have f3 := e5 3
        have f4 := e5 4
        have HDN := Lib.hid (Cp.done (w := w) (by have := HZ0.out; omega) HMD.out HCP.out)
        have hnr : sg ≠ ρ := by
          have h1 := HMD.out.ge
          omega
        have hzr' := Lib.hid hzr
        clear hsg hzr e5
        go_wp2_with fail
        have hfr := put5_fr wr ρ 0 ⟨k, n, s, kA, ks.length, kC, lA, l.length, lC⟩
        have hrow : (put5 wr ρ 0 ⟨k, n, s, kA, ks.length, kC, lA, l.length, lC⟩).heap[ρ]? = some (.cells #[.int .i64 k, .int .i64 n, .string s, .slice kA ks.length kC, .slice lA l.length lC] 25 (0, 0)) := put5_row hzr'.out _
        rw [← put5_lit]
        refine bodyPost_ret (results_cell_row rfl _ _ ρ 25 _ (0, 0) _ rfl hrow Tryd.underlying25 rfl (by rw [hi5]; simp [hs5])) rfl ?_
        have hρ2 := HRR.out
        refine ⟨⟨k, n, s, kA, ks.length, kC, lA, l.length, lC⟩, rfl, IsP.fr (hfr.mono fun q hq => by show q ≠ ρ; omega) (fun q hq => ⟨by omega, Nat.lt_of_lt_of_le hq.2 hfr.size⟩) _ _ HDN.out, ?_⟩
        exact HWR.out.trans (hfr.mono fun q (hq : q < w.heap.size) => by show q ≠ ρ; omega).below
end Go.Proofs.YtnjcofjphneccaaDoor
