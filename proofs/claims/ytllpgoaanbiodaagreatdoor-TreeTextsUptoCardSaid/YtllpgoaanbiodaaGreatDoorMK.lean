/-

-/
import Derived.Test.YtllpgoaanbiodaaGreatDoorMG
set_option maxHeartbeats 1000000
set_option maxRecDepth 8000
namespace Go.Proofs.YtllpgoaanbiodaaGreatDoor.R
open Go.RowKit Go.Proofs.YtllpgoaanbiodaaGreatDoor Go.Proofs.YtllpgoaanbiodaaGreatDoor.T
def Writes0 (f : Nat) (v : V) (out : Ts) : Prop := ∀ (x : X) (F : Nat → Prop) (B : Nat) (T : Ts) (vs : Value) (n0 : Nat) (w : World), Env w F n0 → IsB w n0 v x → Wr w F B T false vs → T.length + out.length ≤ 8796093020000 →
 Calls Tryz.prog f #[.pointer (some ⟨B, 0, none⟩), x.v] w (Adds w F B (T ++ out) false)
def WStmt (v : V) : Prop := Writes0 44 v v.o.st
theorem stmts_snoc (l : List V) (j : Nat) (h : j < l.length) : stmts ((l.take (j + 1)).map V.o) = stmts ((l.take j).map V.o) ++ l[j].o.st := by
 unfold stmts
 rw [snoc_get _ _ h, List.map_append, List.flatMap_append]
 simp
theorem stmts_take (l : List V) (j : Nat) : (stmts ((l.take j).map V.o)).length ≤ (stmts (l.map V.o)).length := by
 conv => rhs; rw [← List.take_append_drop j l, List.map_append]; unfold stmts; rw [List.flatMap_append, List.length_append]
 unfold stmts
 omega
theorem statements_any (l : List V) (hl : ∀ u ∈ l, WStmt u) (F : Nat → Prop) (B : Nat) (T : Ts) (vs : Value) (n0 : Nat) (w : World) (A : Option Addr) (lc : Nat) (hlen : l.length ≤ 4194304) (hE : Env w F n0) (hW : Wr w F B T false vs) (hR : RowB w n0 A l)
  (hlim : T.length + (stmts (l.map V.o)).length ≤ 8796093020000) :
  Calls Tryz.prog 32 #[.pointer (some ⟨B, 0, none⟩), .slice A l.length lc] w (Adds w F B (T ++ stmts (l.map V.o)) false) := by
 have HS := Lib.hid (⟨hE, hW, Fr.refl _ _⟩ : Sit w F n0 B T false vs w)
 have HL := Lib.hid hl
 have HR := Lib.hid hR
 clear hl hR hW hE
 have hlen' : (l.length : Int) ≤ 4194304 := by omega
 go_enter Tryz.func32, Tryz.ntmps32
 go_wp2_with fail
 go_loopw [8] (fun i wr => ∃ (j : Nat) (v' : Value), j ≤ l.length ∧ i = .int .i64 j ∧ Hid (Sit w F n0 B (T ++ stmts ((l.take j).map V.o)) false v' wr))
  (fun i _ => l.length - (intOf i).toNat)
 case atStart => exact ⟨0, vs, Nat.zero_le _, rfl, by rw [show T ++ stmts ((l.take 0).map V.o) = T by simp [stmts]]; exact HS⟩
 case round =>
  obtain ⟨j, v', hj, rfl, hw⟩ := hrel
  by_cases hlt : j < l.length
  ·obtain ⟨g, o, rfl, hg, y, hy, hya⟩ := HR.out.at_ hlt
   have HI := Lib.hid hya
   have HU := Lib.hid (HL.out _ (List.getElem_mem hlt))
   have HSn := Lib.hid (stmts_snoc l j hlt)
   have hll : (T ++ stmts ((l.take j).map V.o)).length + l[j].o.st.length ≤ 8796093020000 := by
    have h1 := congrArg List.length HSn.out
    have h2 := stmts_take l (j + 1)
    rw [List.length_append] at h1 ⊢
    omega
   obtain ⟨c0, c1, c2, c3, c4, c5⟩ := hy.fr (HS.out.env.sub g hg) hw.out.fr
   obtain ⟨yk, ynm, yn, ys, yka, ykn, ykc, yla, yln, ylc⟩ := y
   dsimp only at c0 c1 c2 c3 c4 c5
   have HSr := Lib.hid fun (o : Obj) => hw.out.below (below_alloc wr o)
   clear hy hya hg hw
   generalize l[j] = u at *
   generalize stmts ((l.take j).map V.o) = T1 at *
   go_wp2_with fail
   refine (HU.out ⟨yk, ynm, yn, ys, yka, ykn, ykc, yla, yln, ylc⟩ F B _ v' n0 _ (HSr.out _).env ((HSr.out _).is HI.out) (HSr.out _).wr hll).mono ?_
   rintro e w2 ⟨rfl, ⟨v2, hw2⟩, hf2⟩
   have HS2 := Lib.hid ((HSr.out _).next hw2 hf2)
   clear hw2 hf2 c0 c1 c2 c3 c4 c5 HSr
   go_wp2_with fail
   go_roundw
   case rel => exact ⟨j + 1, v2, by omega, by go_num, by rw [HSn.out, ← List.append_assoc]; exact HS2⟩
   case measure => simp [intOf]; omega
  ·obtain rfl : j = l.length := by omega
   rw [List.take_length] at hw
   go_wp2_with fail
   go_end0
   exact hw.out.adds
theorem c_block (l : List V) (hl : ∀ u ∈ l, WStmt u) (F : Nat → Prop) (B : Nat) (T : Ts) (vs : Value) (n0 : Nat) (w : World) (p r : Nat) (A : Option Addr) (lc : Nat) (hlen : l.length ≤ 4194304) (hE : Env w F n0) (hW : Wr w F B T false vs) (hp : Box w F p #[.pointer (some ⟨B, 0, none⟩)] 57)
  (hr : Box w F r #[.slice A l.length lc] 23) (hR : RowB w n0 A l) (hlim : T.length + (stmts (l.map V.o)).length ≤ 8796093020000) :
  Calls Tryz.prog 118 #[.pointer (some ⟨p, 0, none⟩), .pointer (some ⟨r, 0, none⟩)] w (Adds w F B (T ++ stmts (l.map V.o)) false) := by
 have HC := Lib.hid (statements_any l hl F B T vs n0 w A lc hlen hE hW hR hlim)
 have cp := hp.cell
 have cr := hr.cell
 clear hp hr hE hW hR hl
 go_enter Tryz.func118, Tryz.ntmps118
 go_wp2_with fail
 refine HC.out.mono ?_
 rintro e w1 ⟨rfl, hw, hf⟩
 have HX := Lib.hid hw
 have HY := Lib.hid hf
 clear hw hf cp cr
 go_wp2_with fail
 go_end0
 exact ⟨rfl, HX.out, HY.out⟩
theorem block_any (l : List V) (hl : ∀ u ∈ l, WStmt u) (F : Nat → Prop) (B : Nat) (T : Ts) (b : Bool) (vs : Value) (n0 : Nat) (w : World) (A : Option Addr) (lc : Nat) (hlen : l.length ≤ 4194304) (hE : Env w F n0) (hW : Wr w F B T b vs)
  (hR : RowB w n0 A l) (hlim : T.length + (block (l.map V.o)).length ≤ 8796093020000) :
  Calls Tryz.prog 83 #[.pointer (some ⟨B, 0, none⟩), .slice A l.length lc] w (Adds w F B (T ++ block (l.map V.o)) b) := by
 obtain ⟨hN, hp, hr⟩ := new2 hE hW #[.pointer (some ⟨B, 0, none⟩)] #[.slice A l.length lc] 57 23
 have HS0 := Lib.hid hN.sit
 have HFIN := Lib.hid hN.fin
 have HP := Lib.hid hp
 have HR := Lib.hid hr
 have HRow := Lib.hid (hN.row _ _ hR)
 unfold block at hlim ⊢
 clear hN hp hr hE hW hR
 go_enter Tryz.func83, Tryz.ntmps83
 go_wp2_with fail
 generalize (w.alloc (.cells #[.pointer (some ⟨B, 0, none⟩)] 57)).alloc (.cells #[.slice A l.length lc] 23) = w0 at *
 generalize Ex F w.heap.size 2 = G at *
 refine (enclose_any G B T b vs ⟨#[123]⟩ ⟨#[125]⟩ 118 _ (stmts (l.map V.o)) w0 HS0.out.env.hF HS0.out.wr (by simp at hlim; omega) (by decide) (by decide) (enters_of Tryz.func118 (by kernel_rfl) rfl) ?cc).mono ?_
 case cc =>
  intro w9 v9 hw9 hf9
  have H9 := Lib.hid (HS0.out.next hw9 hf9)
  exact (c_block l hl G B _ v9 n0 w9 _ _ A lc hlen H9.out.env H9.out.wr (HP.out.to hf9) (HR.out.to hf9) (H9.out.row HRow.out) (by simp at hlim ⊢; omega)).mono fun e w' h => h.free
 rintro e w1 ⟨rfl, hw, hf⟩
 have HX := Lib.hid hw
 have HY := Lib.hid hf
 clear hw hf
 go_wp2_with fail
 go_end0
 exact HFIN.out _ _ _ _ ⟨rfl, HX.out, HY.out⟩
theorem c_name (ks : List ByteArray) (hks : ∀ k ∈ ks, ¬ k.size = 0) (F : Nat → Prop) (B : Nat) (T : Ts) (b : Bool) (vs : Value) (n0 : Nat) (w : World) (p q : Nat) (x : X) (j : Nat) (hj : j < ks.length) (hlen : ks.length ≤ 4194304) (hE : Env w F n0) (hW : Wr w F B T b vs) (hp : Box w F p #[.pointer (some ⟨B, 0, none⟩)] 57)
  (hq : Box w F q x.cells 25) (hkn : x.kn = ks.length) (hR : StrsB w n0 x.ka ks) (hlim : T.length + 1 ≤ 8796093020000) :
  Calls Tryz.prog 124 #[.int .i64 (j : Nat), .pointer (some ⟨p, 0, none⟩), .pointer (some ⟨q, 0, none⟩)] w (Adds w F B (T ++ [ks[j]]) b) := by
 obtain ⟨g, o, hA, hg, hc⟩ := hR.at_ hj
 have HS0 := Lib.hid (⟨hE, hW, Fr.refl _ _⟩ : Sit w F n0 B T b vs w)
 have HK := Lib.hid (hks _ (List.getElem_mem hj))
 have cp := hp.cell
 obtain ⟨c0, c1, c2, c3, c4, c5⟩ := hq.at_
 obtain ⟨k, nm, n, s, ka, kn, kc, la, ln, lc⟩ := x
 dsimp only at *
 subst hkn hA
 have hl' : (j : Int) < (ks.length : Int) := by omega
 have hl2 : (ks.length : Int) ≤ 4194304 := by omega
 have HB := Lib.hid (⟨hE.hF _ hp.inF, hE.hF _ hq.inF, Nat.lt_of_lt_of_le hg hE.le, hp.inF, hq.inF, hE.sub g hg⟩ : p < w.heap.size ∧ q < w.heap.size ∧ g < w.heap.size ∧ F p ∧ F q ∧ F g)
 clear hp hq hE hW hR hks hg
 generalize F = G at *
 generalize w = w0 at *
 generalize ks[j] = u at *
 generalize ks.length = ln at *
 go_enter Tryz.func124, Tryz.ntmps124
 go_wp2_with fail
 have HD := Lib.hid HS0.out.drew
 refine wp_region_held_drew (S := fun w' => w'.cell? ⟨p, 0, none⟩ = some (.pointer (some ⟨B, 0, none⟩)) ∧ w'.cell? ⟨q, 4, none⟩ = some (.slice (some ⟨g, o, none⟩) ln kc) ∧ w'.cell? ⟨g, o + j, none⟩ = some (.string u)) (by kernel_rfl) (by (try dsimp only); exact ⟨cp, c4, hc⟩) (fun hHeld => ?_)
 iterate 6
  (first
   | (refine wpAnyH_take (i := 0) (v := ?_) rfl (by kernel_rfl) (by decide +kernel) (by decide +kernel) (fun _ _ _ h => h) (Or.inl ⟨by rfl, ?_⟩) (by assumption) ?_; rotate_left; (focus (intro w0 hSw; (try dsimp only at hSw); go_simp; (try with_reducible rfl); done)))
   | (refine wpAnyH_take (i := 1) (v := ?_) rfl (by kernel_rfl) (by decide +kernel) (by decide +kernel) (fun _ _ _ h => h) (Or.inl ⟨by rfl, ?_⟩) (by assumption) ?_; rotate_left; (focus (intro w0 hSw; (try dsimp only at hSw); go_simp; (try with_reducible rfl); done)))
   | (refine wpAnyH_take (i := 2) (v := ?_) rfl (by kernel_rfl) (by decide +kernel) (by decide +kernel) (fun _ _ _ h => h) (Or.inl ⟨by rfl, ?_⟩) (by assumption) ?_; rotate_left; (focus (intro w0 hSw; (try dsimp only at hSw); go_simp; (try with_reducible rfl); done)))
   | (refine wpAnyH_take (i := 3) (v := ?_) rfl (by kernel_rfl) (by decide +kernel) (by decide +kernel) (fun _ _ _ h => h) (Or.inl ⟨by rfl, ?_⟩) (by assumption) ?_; rotate_left; (focus (intro w0 hSw; (try dsimp only at hSw); go_simp; (try with_reducible rfl); done)))
   | (refine wpAnyH_take (i := 4) (v := ?_) rfl (by kernel_rfl) (by decide +kernel) (by decide +kernel) (fun _ _ _ h => h) (Or.inl ⟨by rfl, ?_⟩) (by assumption) ?_; rotate_left; (focus (intro w0 hSw; (try dsimp only at hSw); go_simp; (try with_reducible rfl); done)))
   | (refine wpAnyH_take (i := 5) (v := ?_) rfl (by kernel_rfl) (by decide +kernel) (by decide +kernel) (fun _ _ _ h => h) (Or.inl ⟨by rfl, ?_⟩) (by assumption) ?_; rotate_left; (focus (intro w0 hSw; (try dsimp only at hSw); go_simp; (try with_reducible rfl); done)))
   )
  try simp only [List.getElem_toArray, List.getElem_cons_zero, List.getElem_cons_succ, Act.put, List.setIfInBounds_toArray, List.set_cons_zero, List.set_cons_succ]
 refine wpAnyH_ready (rs := [6]) (by decide +kernel) (by simp) (AllReadyH.cons rfl (fun K hK => ?_) AllReadyH.nil)
 go_simp
 have eS := (⟨(World.cell?_alloc_lt _ _ _ HB.out.1).trans cp, (World.cell?_alloc_lt _ _ _ HB.out.2.1).trans c4, (World.cell?_alloc_lt _ _ _ HB.out.2.2.1).trans hc⟩ : (w0.alloc (.cells #[.string u] 9)).cell? ⟨p, 0, none⟩ = some (.pointer (some ⟨B, 0, none⟩)) ∧ (w0.alloc (.cells #[.string u] 9)).cell? ⟨q, 4, none⟩ = some (.slice (some ⟨g, o, none⟩) ln kc) ∧ (w0.alloc (.cells #[.string u] 9)).cell? ⟨g, o + j, none⟩ = some (.string u))
 refine hK.out _ _ eS (fun hHeld2 => ?_)
 clear hK K hHeld
 try simp only [Act.put, List.setIfInBounds_toArray]
 refine wpAnyH_ready (rs := [7]) (by decide +kernel) (by simp) (AllReadyH.cons rfl (fun K hK => ?_) AllReadyH.nil)
 go_simp
 go_at_call 81
 rw [show (w0.alloc (.cells #[.string u] 9)).drew = w0.drew.alloc (.cells #[.string u] 9) from rfl]
 refine (add_one G B T b vs u _ w0.drew HD.out.env.hF HD.out.wr (by omega) HK.out rfl).mono ?_
 rintro e w1 ⟨rfl, ⟨vs1, hw⟩, hf⟩
 have HS1 := Lib.hid (HD.out.next hw hf)
 have fS := (⟨(hf.cell (p := ⟨p, 0, none⟩) HB.out.2.2.2.1).trans cp, (hf.cell (p := ⟨q, 4, none⟩) HB.out.2.2.2.2.1).trans c4, (hf.cell (p := ⟨g, o + j, none⟩) HB.out.2.2.2.2.2).trans hc⟩ : w1.cell? ⟨p, 0, none⟩ = some (.pointer (some ⟨B, 0, none⟩)) ∧ w1.cell? ⟨q, 4, none⟩ = some (.slice (some ⟨g, o, none⟩) ln kc) ∧ w1.cell? ⟨g, o + j, none⟩ = some (.string u))
 clear hw hf
 refine hK.out _ _ fS (fun hHeld3 => ?_)
 clear hK K hHeld2
 try simp only [Act.put, List.setIfInBounds_toArray]
 refine wpAnyH_done (by kernel_rfl) ?_ _
 clear hHeld3 fS eS cp c0 c1 c2 c3 c4 c5 hc
 go_wp2_with fail
 go_end0
 exact HS1.out.adds
theorem c_names (ks : List ByteArray) (hks : ∀ k ∈ ks, ¬ k.size = 0) (F : Nat → Prop) (B : Nat) (T : Ts) (b : Bool) (vs : Value) (n0 : Nat) (w : World) (p q : Nat) (x : X) (hlen : ks.length ≤ 4194304) (hE : Env w F n0) (hW : Wr w F B T b vs) (hp : Box w F p #[.pointer (some ⟨B, 0, none⟩)] 57)
  (hq : Box w F q x.cells 25) (hkn : x.kn = ks.length) (hR : StrsB w n0 x.ka ks) (hlim : T.length + lens (ks.map fun k => [k]) ≤ 8796093020000) :
  Calls Tryz.prog 123 #[.pointer (some ⟨p, 0, none⟩), .pointer (some ⟨q, 0, none⟩)] w (Adds w F B (T ++ commas (ks.map fun k => [k])) b) := by
 have HC := Lib.hid fun j hj T1 w1 v1 (hE1 : Env w1 F n0) (hW1 : Wr w1 F B T1 b v1) (hf : Fr F w w1) => c_name ks hks F B T1 b v1 n0 w1 p q x j hj hlen hE1 hW1 (hp.to hf) (hq.to hf) hkn (hR.to (hf.mono hE.sub).below (Nat.le_refl _))
 have HE := Lib.hid hE
 have HW := Lib.hid hW
 have cp := hp.cell
 obtain ⟨c0, c1, c2, c3, c4, c5⟩ := hq.at_
 obtain ⟨k, nm, n, s, ka, kn, kc, la, ln, lc⟩ := x
 dsimp only at *
 subst hkn
 clear hp hq hE hW hR hks
 go_enter Tryz.func123, Tryz.ntmps123
 go_wp2_with fail
 refine (commas_any F B T b vs (ks.map fun k => [k]) ks.length 124 [.pointer (some ⟨p, 0, none⟩), .pointer (some ⟨q, 0, none⟩)] w HE.out.hF HW.out (Nat.le_succ_of_le hlim) (by simp) (enters_of Tryz.func124 (by kernel_rfl) rfl) ?cc).mono ?_
 case cc =>
  intro j hj T1 w1 v1 h1 h2 h3
  have e : (ks.map fun k => [k])[j] = [ks[j]'(by simpa using hj)] := by simp
  rw [e] at h1 ⊢
  exact HC.out j (by simpa using hj) T1 w1 v1 (HE.out.to h3) h2 h3 (by simpa using h1)
 rintro e w1 ⟨rfl, hw, hf⟩
 have HX := Lib.hid hw
 have HY := Lib.hid hf
 clear hw hf cp c0 c1 c2 c3 c4 c5
 go_wp2_with fail
 go_end0
 exact ⟨rfl, HX.out, HY.out⟩
theorem function_any (v : V) (hks : ∀ k ∈ v.ks, ¬ k.size = 0) (hl : ∀ u ∈ v.l, WStmt u) (hkl : v.ks.length ≤ 4194304) (hll : v.l.length ≤ 4194304) : Writes 89 v fun _ => func v.nm v.ks (v.l.map V.o) := by
 intro x F B T b vs n0 w hE hx hW hlim
 dsimp only at hlim ⊢
 unfold func at hlim ⊢
 obtain ⟨ka, kc, la, lc, rfl, h1, h2, h3, h4⟩ := hx.open
 simp only [X.v] at *
 have hlk := lens_commas (v.ks.map fun k => [k])
 obtain ⟨hN, hp, hq⟩ := new2 hE hW #[.pointer (some ⟨B, 0, none⟩)] #[.int .i64 v.k, .string v.nm, .int .i64 v.n, .string v.s, .slice ka v.ks.length kc, .slice la v.l.length lc] 57 25
 have HS0 := Lib.hid hN.sit
 have HFIN := Lib.hid hN.fin
 have HP := Lib.hid hp
 have HQB := Lib.hid hq
 have HQ := Lib.hid (Box.at_ (x := ⟨v.k, v.nm, v.n, v.s, ka, v.ks.length, kc, la, v.l.length, lc⟩) hq)
 have HQG := Lib.hid hq.inF
 have HSt := Lib.hid (hN.strs _ _ h3)
 have HRow := Lib.hid (hN.row _ _ h4)
 have HKS := Lib.hid hks
 have HLS := Lib.hid hl
 clear hN hp hq hE hW hx h1 h2 h3 h4 hks hl
 go_enter Tryz.func89, Tryz.ntmps89
 go_wp2_with fail
 have HZ : Hid (((w.alloc (.cells #[.pointer (some ⟨B, 0, none⟩)] 57)).alloc (.cells #[.int .i64 v.k, .string v.nm, .int .i64 v.n, .string v.s, .slice ka v.ks.length kc, .slice la v.l.length lc] 25)).heap.size = w.heap.size + 1 + 1) := by
  show _ = _
  simp
 generalize (w.alloc (.cells #[.pointer (some ⟨B, 0, none⟩)] 57)).alloc (.cells #[.int .i64 v.k, .string v.nm, .int .i64 v.n, .string v.s, .slice ka v.ks.length kc, .slice la v.l.length lc] 25) = w0 at *
 generalize Ex F w.heap.size 2 = G at *
 refine (add_two G B T b vs ⟨#[102, 117, 110, 99, 116, 105, 111, 110]⟩ v.nm _ w0 HS0.out.env.hF HS0.out.wr (by (try simp at hlim); (try simp); omega) (by decide) HZ.out.symm).mono ?_
 rintro e w1 ⟨rfl, ⟨vs1, hw⟩, hf⟩
 have HS1 := Lib.hid (HS0.out.next hw hf)
 clear hw hf HS0
 have cHP := (HP.out.to HS1.out.fr).cell
 go_wp2_with fail
 refine (enclose_any G B _ b vs1 ⟨#[40]⟩ ⟨#[41]⟩ 123 _ (commas (v.ks.map fun k => [k])) w1 HS1.out.env.hF HS1.out.wr (by (try simp at hlim); (try simp); omega) (by decide) (by decide) (enters_of Tryz.func123 (by kernel_rfl) rfl) ?cc).mono ?_
 case cc =>
  intro w9 v9 hw9 hf9
  have H9 := Lib.hid (HS1.out.next hw9 hf9)
  exact (c_names v.ks HKS.out G B _ false v9 n0 w9 _ _ ⟨v.k, v.nm, v.n, v.s, ka, v.ks.length, kc, la, v.l.length, lc⟩ hkl H9.out.env H9.out.wr (HP.out.to H9.out.fr) (HQB.out.to H9.out.fr) rfl (H9.out.strs HSt.out) (by (try simp at hlim); (try simp); omega)).mono fun e w' h => h.free
 rintro e w2 ⟨rfl, ⟨vs2, hw⟩, hf⟩
 have HS2 := Lib.hid (HS1.out.next hw hf)
 clear hw hf HS1 cHP
 have cHP := (HP.out.to HS2.out.fr).cell
 obtain ⟨c0, c1, c2, c3, c4, c5⟩ := (HQ.out.fr HQG.out HS2.out.fr).six
 go_wp2_with fail
 refine (block_any v.l HLS.out G B _ b vs2 n0 w2 la lc hll HS2.out.env HS2.out.wr (HS2.out.row HRow.out) (by (try simp at hlim); (try simp); omega)).mono ?_
 rintro e w3 ⟨rfl, ⟨vs3, hw⟩, hf⟩
 have HS3 := Lib.hid (HS2.out.next hw hf)
 clear hw hf HS2 cHP c0 c1 c2 c3 c4 c5
 go_wp2_with fail
 go_end0
 have hfin := HS3.out.adds
 have e : ∀ a b c d : Ts, T ++ (⟨#[102, 117, 110, 99, 116, 105, 111, 110]⟩ :: a) ++ b ++ c = T ++ ⟨#[102, 117, 110, 99, 116, 105, 111, 110]⟩ :: (a ++ (b ++ c)) := by intros; simp
 rw [e _ _ _ []] at hfin
 exact HFIN.out _ _ _ _ hfin
end Go.Proofs.YtllpgoaanbiodaaGreatDoor.R
