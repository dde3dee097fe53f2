/-

-/
import Derived.Test.YtllpgoaanbiodaaGreatDoorMD
import Derived.StillTailTactics
import Derived.Deep.Draws
set_option maxRecDepth 8000
namespace Go.Proofs.YtllpgoaanbiodaaGreatDoor.R
open Go.RowKit Go.Proofs.YtllpgoaanbiodaaGreatDoor Go.Proofs.YtllpgoaanbiodaaGreatDoor.T
theorem below_three (w : World) (a b c : Obj) : Below w.heap.size w (((w.alloc a).alloc b).alloc c) := (below_two w a b).alloc (by simp; omega) _
theorem three_new (w : World) (a b c : Obj) : (((w.alloc a).alloc b).alloc c).heap[w.heap.size]? = some a ∧ (((w.alloc a).alloc b).alloc c).heap[w.heap.size + 1]? = some b ∧ (((w.alloc a).alloc b).alloc c).heap[w.heap.size + 1 + 1]? = some c := by
 refine ⟨?_, ?_, ?_⟩
 ·show (((w.heap.push a).push b).push c)[w.heap.size]? = some a
  rw [Array.getElem?_push, if_neg (by simp; omega), Array.getElem?_push, if_neg (by simp), Array.getElem?_push, if_pos rfl]
 ·show (((w.heap.push a).push b).push c)[w.heap.size + 1]? = some b
  rw [Array.getElem?_push, if_neg (by simp), Array.getElem?_push, if_pos (by simp)]
 ·show (((w.heap.push a).push b).push c)[w.heap.size + 1 + 1]? = some c
  rw [Array.getElem?_push, if_pos (by simp)]
theorem RowB.one {w : World} {n0 : Nat} {A : Option Addr} {a : V} (h : RowB w n0 A [a]) : ∃ g o y, A = some ⟨g, o, none⟩ ∧ g < n0 ∧ At w g o y ∧ IsB w n0 a y := by
 rcases h with h | ⟨g, o, rfl, h1, h2⟩
 ·cases h
 ·simp only [IsAllB] at h2
  obtain ⟨⟨y, hy, hya⟩, _⟩ := h2
  exact ⟨g, o, y, rfl, h1, hy, hya⟩
theorem RowB.two {w : World} {n0 : Nat} {A : Option Addr} {a c : V} (h : RowB w n0 A [a, c]) : ∃ g o y z, A = some ⟨g, o, none⟩ ∧ g < n0 ∧ (At w g o y ∧ IsB w n0 a y) ∧ At w g (o + 6) z ∧ IsB w n0 c z := by
 rcases h with h | ⟨g, o, rfl, h1, h2⟩
 ·cases h
 ·simp only [IsAllB] at h2
  obtain ⟨⟨y, hy⟩, ⟨z, hz⟩, _⟩ := h2
  exact ⟨g, o, y, z, rfl, h1, hy, hz⟩
theorem RowB.three {w : World} {n0 : Nat} {A : Option Addr} {a c d : V} (h : RowB w n0 A [a, c, d]) : ∃ g o y z u, A = some ⟨g, o, none⟩ ∧ g < n0 ∧ (At w g o y ∧ IsB w n0 a y) ∧ (At w g (o + 6) z ∧ IsB w n0 c z) ∧ At w g (o + 12) u ∧ IsB w n0 d u := by
 rcases h with h | ⟨g, o, rfl, h1, h2⟩
 ·cases h
 ·simp only [IsAllB] at h2
  obtain ⟨⟨y, hy⟩, ⟨z, hz⟩, ⟨u, hu⟩, _⟩ := h2
  exact ⟨g, o, y, z, u, rfl, h1, hy, hz, hu⟩
theorem RowB.four {w : World} {n0 : Nat} {A : Option Addr} {a c d e : V} (h : RowB w n0 A [a, c, d, e]) : ∃ g o y z u t, A = some ⟨g, o, none⟩ ∧ g < n0 ∧ (At w g o y ∧ IsB w n0 a y) ∧ (At w g (o + 6) z ∧ IsB w n0 c z) ∧ (At w g (o + 12) u ∧ IsB w n0 d u) ∧ At w g (o + 18) t ∧ IsB w n0 e t := by
 rcases h with h | ⟨g, o, rfl, h1, h2⟩
 ·cases h
 ·simp only [IsAllB] at h2
  obtain ⟨⟨y, hy⟩, ⟨z, hz⟩, ⟨u, hu⟩, ⟨t, ht⟩, _⟩ := h2
  exact ⟨g, o, y, z, u, t, rfl, h1, hy, hz, hu, ht⟩
theorem At.fr {F : Nat → Prop} {w w' : World} {g o : Nat} {x : X} (h : At w g o x) (hg : F g) (hb : Fr F w w') : At w' g o x :=
 ⟨(hb.cell (p := ⟨g, o, none⟩) hg).trans h.c0, (hb.cell (p := ⟨g, o + 1, none⟩) hg).trans h.c1, (hb.cell (p := ⟨g, o + 2, none⟩) hg).trans h.c2, (hb.cell (p := ⟨g, o + 3, none⟩) hg).trans h.c3, (hb.cell (p := ⟨g, o + 4, none⟩) hg).trans h.c4, (hb.cell (p := ⟨g, o + 5, none⟩) hg).trans h.c5⟩
structure Sit (w3 : World) (G : Nat → Prop) (n0 B : Nat) (T : Ts) (b : Bool) (vs : Value) (wi : World) : Prop where
 env : Env wi G n0
 wr : Wr wi G B T b vs
 fr : Fr G w3 wi
theorem Sit.next {w3 wi w' : World} {G : Nat → Prop} {n0 B : Nat} {T T' : Ts} {b b' : Bool} {vs vs' : Value} (h : Sit w3 G n0 B T b vs wi) (h2 : Wr w' G B T' b' vs') (h3 : Fr G wi w') : Sit w3 G n0 B T' b' vs' w' := ⟨h.env.to h3, h2, h.fr.trans h3⟩
theorem Sit.drew {w3 wi : World} {G : Nat → Prop} {n0 B : Nat} {T : Ts} {b : Bool} {vs : Value} (h : Sit w3 G n0 B T b vs wi) : Sit w3 G n0 B T b vs wi.drew :=
 h.next (h.wr.below (Below.refl _ wi).drew) ((Fr.refl G wi).drew)
theorem Sit.below {w3 wi w' : World} {G : Nat → Prop} {n0 B : Nat} {T : Ts} {b : Bool} {vs : Value} (h : Sit w3 G n0 B T b vs wi) (hb : Below wi.heap.size wi w') : Sit w3 G n0 B T b vs w' :=
 h.next (h.wr.below hb) (Fr.of hb h.env.hF)
theorem Sit.flag {w3 wi : World} {G : Nat → Prop} {n0 B : Nat} {T : Ts} {b : Bool} {vs : Value} (h : Sit w3 G n0 B T b vs wi) (c : Bool) : Sit w3 G n0 B T c vs (wi.setCell ⟨B, 1, none⟩ (.bool c)) :=
 h.next (h.wr.flag c) ((Fr.refl G wi).setCell h.wr.nF _)
theorem Sit.is {w3 wi : World} {G : Nat → Prop} {n0 B : Nat} {T : Ts} {b : Bool} {vs : Value} (h : Sit w3 G n0 B T b vs wi) {v : V} {x : X} (hx : IsB w3 n0 v x) : IsB wi n0 v x := IsB.to (h.fr.mono h.env.sub).below (Nat.le_refl _) v x hx
theorem Sit.row {w3 wi : World} {G : Nat → Prop} {n0 B : Nat} {T : Ts} {b : Bool} {vs : Value} (h : Sit w3 G n0 B T b vs wi) {A : Option Addr} {l : List V} (hx : RowB w3 n0 A l) : RowB wi n0 A l := hx.to (h.fr.mono h.env.sub).below (Nat.le_refl _)
theorem Sit.strs {w3 wi : World} {G : Nat → Prop} {n0 B : Nat} {T : Ts} {b : Bool} {vs : Value} (h : Sit w3 G n0 B T b vs wi) {A : Option Addr} {l : List ByteArray} (hx : StrsB w3 n0 A l) : StrsB wi n0 A l := hx.to (h.fr.mono h.env.sub).below (Nat.le_refl _)
theorem Sit.adds {w3 wi : World} {G : Nat → Prop} {n0 B : Nat} {T : Ts} {b : Bool} {vs : Value} (h : Sit w3 G n0 B T b vs wi) : Adds w3 G B T b (.returned (.tuple #[])) wi := ⟨rfl, ⟨vs, h.wr⟩, h.fr⟩
theorem sit_start {w w' : World} {F : Nat → Prop} {n0 B : Nat} {T : Ts} {b : Bool} {vs : Value} (hE : Env w F n0) (hW : Wr w F B T b vs) (hb : Below w.heap.size w w') (n : Nat) (hs : w.heap.size + n ≤ w'.heap.size) : Sit w' (Ex F w.heap.size n) n0 B T b vs w' :=
 ⟨hE.ex hb n hs, hW.ex hb n, Fr.refl _ _⟩
structure New (w w3 : World) (F : Nat → Prop) (n n0 B : Nat) (T : Ts) (b : Bool) (vs : Value) : Prop where
 bel : Below w.heap.size w w3
 sit : Sit w3 (Ex F w.heap.size n) n0 B T b vs w3
 fin : ∀ (T' : Ts) (b' : Bool) (e : Ending) (w' : World), Adds w3 (Ex F w.heap.size n) B T' b' e w' → Adds w F B T' b' e w'
 is : ∀ (v : V) (x : X), IsB w n0 v x → IsB w3 n0 v x
 row : ∀ (A : Option Addr) (l : List V), RowB w n0 A l → RowB w3 n0 A l
 strs : ∀ (A : Option Addr) (l : List ByteArray), StrsB w n0 A l → StrsB w3 n0 A l
 at_ : ∀ (g o : Nat) (x : X), g < n0 → At w g o x → At w3 g o x
theorem new_of {w w3 : World} {F : Nat → Prop} {n0 B : Nat} {T : Ts} {b : Bool} {vs : Value} (hE : Env w F n0) (hW : Wr w F B T b vs) (hb : Below w.heap.size w w3) (n : Nat) (hs : w.heap.size + n ≤ w3.heap.size) : New w w3 F n n0 B T b vs :=
 ⟨hb, sit_start hE hW hb n hs, fun _ _ _ _ h => Adds.ex hE.hF hb h, fun v x h => IsB.to (hb.mono hE.le) (Nat.le_refl _) v x h, fun _ _ h => h.to (hb.mono hE.le) (Nat.le_refl _), fun _ _ h => h.to (hb.mono hE.le) (Nat.le_refl _), fun _ _ _ hg h => h.below hg (hb.mono hE.le)⟩
theorem new1 {w : World} {F : Nat → Prop} {n0 B : Nat} {T : Ts} {b : Bool} {vs : Value} (hE : Env w F n0) (hW : Wr w F B T b vs) (cp : Array Value) (tp : TypeId) :
  New w (w.alloc (.cells cp tp)) F 1 n0 B T b vs ∧ Box (w.alloc (.cells cp tp)) (Ex F w.heap.size 1) w.heap.size cp tp := by
 have hb := below_alloc w (.cells cp tp)
 refine ⟨new_of hE hW hb 1 (by simp), ?_, .inr ⟨Nat.le_refl _, by omega⟩⟩
 show (w.heap.push _)[w.heap.size]? = _
 rw [Array.getElem?_push, if_pos rfl]
theorem new2 {w : World} {F : Nat → Prop} {n0 B : Nat} {T : Ts} {b : Bool} {vs : Value} (hE : Env w F n0) (hW : Wr w F B T b vs) (cp cq : Array Value) (tp tq : TypeId) :
  New w ((w.alloc (.cells cp tp)).alloc (.cells cq tq)) F 2 n0 B T b vs ∧ Box ((w.alloc (.cells cp tp)).alloc (.cells cq tq)) (Ex F w.heap.size 2) w.heap.size cp tp ∧ Box ((w.alloc (.cells cp tp)).alloc (.cells cq tq)) (Ex F w.heap.size 2) (w.heap.size + 1) cq tq :=
 ⟨new_of hE hW (below_two w _ _) 2 (by simp), box_two w F cp cq tp tq⟩
theorem new3 {w : World} {F : Nat → Prop} {n0 B : Nat} {T : Ts} {b : Bool} {vs : Value} (hE : Env w F n0) (hW : Wr w F B T b vs) (cp cq cr : Array Value) (tp tq tr : TypeId) :
  New w (((w.alloc (.cells cp tp)).alloc (.cells cq tq)).alloc (.cells cr tr)) F 3 n0 B T b vs ∧ Box (((w.alloc (.cells cp tp)).alloc (.cells cq tq)).alloc (.cells cr tr)) (Ex F w.heap.size 3) w.heap.size cp tp ∧
   Box (((w.alloc (.cells cp tp)).alloc (.cells cq tq)).alloc (.cells cr tr)) (Ex F w.heap.size 3) (w.heap.size + 1) cq tq ∧ Box (((w.alloc (.cells cp tp)).alloc (.cells cq tq)).alloc (.cells cr tr)) (Ex F w.heap.size 3) (w.heap.size + 1 + 1) cr tr := by
 obtain ⟨h1, h2, h3⟩ := three_new w (.cells cp tp) (.cells cq tq) (.cells cr tr)
 exact ⟨new_of hE hW (below_three w _ _ _) 3 (by simp), ⟨h1, .inr ⟨Nat.le_refl _, by omega⟩⟩, ⟨h2, .inr ⟨by omega, by omega⟩⟩, ⟨h3, .inr ⟨by omega, by omega⟩⟩⟩
theorem c_bare1 (c : V) (hc : WExpr c) (F : Nat → Prop) (B : Nat) (T : Ts) (b : Bool) (vs : Value) (n0 : Nat) (w : World) (p r gg o ln lc : Nat) (z : X) (hE : Env w F n0) (hW : Wr w F B T b vs) (hp : Box w F p #[.pointer (some ⟨B, 0, none⟩)] 57)
  (hr : Box w F r #[.slice (some ⟨gg, o, none⟩) ln lc] 23) (hl : 2 ≤ ln) (_hlc : ln ≤ lc) (hg : gg < n0) (hz : At w gg (o + 6) z) (hzc : IsB w n0 c z) (hlim : T.length + (c.o.at 0 b).length ≤ 8796093020000) :
  Calls Tryz.prog 139 #[.pointer (some ⟨p, 0, none⟩), .pointer (some ⟨r, 0, none⟩)] w (AddsF w F B (T ++ c.o.at 0 b)) := by
 have HS0 := Lib.hid (⟨hE, hW, Fr.refl _ _⟩ : Sit w F n0 B T b vs w)
 have HP := Lib.hid hp
 have HR := Lib.hid hr
 have HY := Lib.hid hz
 have HGg := Lib.hid (hE.sub gg hg)
 have HI := Lib.hid hzc
 have HC := Lib.hid hc
 have hl' : (1 : Int) < (ln : Int) := by omega
 obtain ⟨yk, ynm, yn, ys, yka, ykn, ykc, yla, yln, ylc⟩ := z
 clear hp hr hz hE hW hzc hc hg
 generalize F = G at *
 generalize w = w0 at *
 go_enter Tryz.func139, Tryz.ntmps139
 have cHP := (HP.out.to HS0.out.fr).cell
 have cHR := (HR.out.to HS0.out.fr).cell
 obtain ⟨HY_0, HY_1, HY_2, HY_3, HY_4, HY_5⟩ := (HY.out.fr HGg.out HS0.out.fr).six
 go_wp2_with fail
 go_still_tail 4, (by kernel_rfl)
 have HD0 := Lib.hid HS0.out.drew
 change wpList _ _ _ _ _ w0.drew
 generalize w0.drew = wd0 at *
 clear HS0
 go_wp2_with fail
 refine (HC.out 0 ⟨yk, ynm, yn, ys, yka, ykn, ykc, yla, yln, ylc⟩ G B T b vs n0 wd0 HD0.out.env (HD0.out.is HI.out) HD0.out.wr hlim).mono ?_
 rintro e w1 ⟨rfl, ⟨vs1, hw⟩, hf⟩
 have HS1 := Lib.hid (HD0.out.next hw hf)
 clear hw hf HD0 cHP cHR HY_0 HY_1 HY_2 HY_3 HY_4 HY_5
 go_wp2_with fail
 go_end0
 exact HS1.out.adds.free
theorem c_bare2 (c : V) (hc : WExpr c) (F : Nat → Prop) (B : Nat) (T : Ts) (b : Bool) (vs : Value) (n0 : Nat) (w : World) (p r gg o ln lc : Nat) (z : X) (hE : Env w F n0) (hW : Wr w F B T b vs) (hp : Box w F p #[.pointer (some ⟨B, 0, none⟩)] 57)
  (hr : Box w F r #[.slice (some ⟨gg, o, none⟩) ln lc] 23) (hl : 2 ≤ ln) (_hlc : ln ≤ lc) (hg : gg < n0) (hz : At w gg (o + 6) z) (hzc : IsB w n0 c z) (hlim : T.length + (c.o.at 1 b).length ≤ 8796093020000) :
  Calls Tryz.prog 142 #[.pointer (some ⟨p, 0, none⟩), .pointer (some ⟨r, 0, none⟩)] w (AddsF w F B (T ++ c.o.at 1 b)) := by
 have HS0 := Lib.hid (⟨hE, hW, Fr.refl _ _⟩ : Sit w F n0 B T b vs w)
 have HP := Lib.hid hp
 have HR := Lib.hid hr
 have HY := Lib.hid hz
 have HGg := Lib.hid (hE.sub gg hg)
 have HI := Lib.hid hzc
 have HC := Lib.hid hc
 have hl' : (1 : Int) < (ln : Int) := by omega
 obtain ⟨yk, ynm, yn, ys, yka, ykn, ykc, yla, yln, ylc⟩ := z
 clear hp hr hz hE hW hzc hc hg
 generalize F = G at *
 generalize w = w0 at *
 go_enter Tryz.func142, Tryz.ntmps142
 have cHP := (HP.out.to HS0.out.fr).cell
 have cHR := (HR.out.to HS0.out.fr).cell
 obtain ⟨HY_0, HY_1, HY_2, HY_3, HY_4, HY_5⟩ := (HY.out.fr HGg.out HS0.out.fr).six
 go_wp2_with fail
 go_still_tail 4, (by kernel_rfl)
 have HD0 := Lib.hid HS0.out.drew
 change wpList _ _ _ _ _ w0.drew
 generalize w0.drew = wd0 at *
 clear HS0
 go_wp2_with fail
 refine (HC.out 1 ⟨yk, ynm, yn, ys, yka, ykn, ykc, yla, yln, ylc⟩ G B T b vs n0 wd0 HD0.out.env (HD0.out.is HI.out) HD0.out.wr hlim).mono ?_
 rintro e w1 ⟨rfl, ⟨vs1, hw⟩, hf⟩
 have HS1 := Lib.hid (HD0.out.next hw hf)
 clear hw hf HD0 cHP cHR HY_0 HY_1 HY_2 HY_3 HY_4 HY_5
 go_wp2_with fail
 go_end0
 exact HS1.out.adds.free
theorem c_elem (l : List V) (hl : ∀ u ∈ l, WExpr u) (F : Nat → Prop) (B : Nat) (T : Ts) (b : Bool) (vs : Value) (n0 : Nat) (w : World) (p r : Nat) (A : Option Addr) (lc : Nat) (j : Nat) (hj : j < l.length) (hlen : l.length ≤ 4194304) (hE : Env w F n0) (hW : Wr w F B T b vs) (hp : Box w F p #[.pointer (some ⟨B, 0, none⟩)] 57)
  (hr : Box w F r #[.slice A l.length lc] 23) (hR : RowB w n0 A l) (hlim : T.length + (l[j].o.at 1 b).length ≤ 8796093020000) :
  Calls Tryz.prog 148 #[.int .i64 (j : Nat), .pointer (some ⟨p, 0, none⟩), .pointer (some ⟨r, 0, none⟩)] w (Adds w F B (T ++ l[j].o.at 1 b) b) := by
 obtain ⟨gg, o, rfl, hg, z, hz, hzc⟩ := hR.at_ hj
 have HS0 := Lib.hid (⟨hE, hW, Fr.refl _ _⟩ : Sit w F n0 B T b vs w)
 have HP := Lib.hid hp
 have HR := Lib.hid hr
 have HY := Lib.hid hz
 have HGg := Lib.hid (hE.sub gg hg)
 have HI := Lib.hid hzc
 have HC := Lib.hid (hl _ (List.getElem_mem hj))
 have hl' : (j : Int) < (l.length : Int) := by omega
 have hl2 : (l.length : Int) ≤ 4194304 := by omega
 obtain ⟨yk, ynm, yn, ys, yka, ykn, ykc, yla, yln, ylc⟩ := z
 clear hp hr hz hE hW hzc hl hg hR
 generalize F = G at *
 generalize w = w0 at *
 generalize l[j] = u at *
 generalize l.length = ln at *
 go_enter Tryz.func148, Tryz.ntmps148
 have cHP := (HP.out.to HS0.out.fr).cell
 have cHR := (HR.out.to HS0.out.fr).cell
 obtain ⟨HY_0, HY_1, HY_2, HY_3, HY_4, HY_5⟩ := (HY.out.fr HGg.out HS0.out.fr).six
 go_wp2_with fail
 go_still_tail 5, (by kernel_rfl)
 have HD0 := Lib.hid HS0.out.drew
 change wpList _ _ _ _ _ w0.drew
 generalize w0.drew = wd0 at *
 clear HS0
 go_wp2_with fail
 refine (HC.out 1 ⟨yk, ynm, yn, ys, yka, ykn, ykc, yla, yln, ylc⟩ G B T b vs n0 wd0 HD0.out.env (HD0.out.is HI.out) HD0.out.wr hlim).mono ?_
 rintro e w1 ⟨rfl, ⟨vs1, hw⟩, hf⟩
 have HS1 := Lib.hid (HD0.out.next hw hf)
 clear hw hf HD0 cHP cHR HY_0 HY_1 HY_2 HY_3 HY_4 HY_5
 go_wp2_with fail
 go_end0
 exact HS1.out.adds
theorem lens_map (l : List V) (f : V → Ts) : ∀ j (h : j < (l.map f).length), (l.map f)[j] = f (l[j]'(by simpa using h)) := fun j h => by simp
theorem c_elems (l : List V) (hl : ∀ u ∈ l, WExpr u) (F : Nat → Prop) (B : Nat) (T : Ts) (b : Bool) (vs : Value) (n0 : Nat) (w : World) (p r : Nat) (A : Option Addr) (lc : Nat) (hlen : l.length ≤ 4194304) (hE : Env w F n0) (hW : Wr w F B T b vs) (hp : Box w F p #[.pointer (some ⟨B, 0, none⟩)] 57)
  (hr : Box w F r #[.slice A l.length lc] 23) (hR : RowB w n0 A l) (hlim : T.length + lens (l.map fun u => u.o.at 1 b) ≤ 8796093020000) :
  Calls Tryz.prog 147 #[.pointer (some ⟨p, 0, none⟩), .pointer (some ⟨r, 0, none⟩)] w (Adds w F B (T ++ commas (l.map fun u => u.o.at 1 b)) b) := by
 have HC := Lib.hid fun j hj T1 w1 v1 (hE1 : Env w1 F n0) (hW1 : Wr w1 F B T1 b v1) (hf : Fr F w w1) => c_elem l hl F B T1 b v1 n0 w1 p r A lc j hj hlen hE1 hW1 (hp.to hf) (hr.to hf) (hE.row hf hR)
 have HE := Lib.hid hE
 have HW := Lib.hid hW
 have cp := hp.cell
 have cr := hr.cell
 clear hp hr hE hW hR hl
 go_enter Tryz.func147, Tryz.ntmps147
 go_wp2_with fail
 refine (commas_any F B T b vs (l.map fun u => u.o.at 1 b) l.length 148 [.pointer (some ⟨p, 0, none⟩), .pointer (some ⟨r, 0, none⟩)] w HE.out.hF HW.out (Nat.le_succ_of_le hlim) (by simp) (enters_of Tryz.func148 (by kernel_rfl) rfl) ?cc).mono ?_
 case cc =>
  intro j hj T1 w1 v1 h1 h2 h3
  rw [lens_map] at h1 ⊢
  exact HC.out j (by simpa using hj) T1 w1 v1 (HE.out.to h3) h2 h3 h1
 rintro e w1 ⟨rfl, hw, hf⟩
 have HX := Lib.hid hw
 have HY := Lib.hid hf
 clear hw hf cp cr
 go_wp2_with fail
 go_end0
 exact ⟨rfl, HX.out, HY.out⟩
theorem lens_commas : ∀ l : List Ts, lens l ≤ (commas l).length + 1
 | [] => by simp [lens]
 | [a] => by simp [lens, commas]
 | a :: b :: r => by
  have := lens_commas (b :: r)
  rw [lens, commas, List.length_append, List.length_cons]
  omega
theorem elements_any (l : List V) (hl : ∀ u ∈ l, WExpr u) (a z : ByteArray) (ha : ¬ a.size = 0) (hz : ¬ z.size = 0) (F : Nat → Prop) (B : Nat) (T : Ts) (b : Bool) (vs : Value) (n0 : Nat) (w : World) (A : Option Addr) (lc : Nat) (hlen : l.length ≤ 4194304) (hE : Env w F n0) (hW : Wr w F B T b vs)
  (hR : RowB w n0 A l) (hlim : T.length + (brack a z (commas (l.map fun u => u.o.at 1 false))).length ≤ 8796093020000) :
  Calls Tryz.prog 140 #[.pointer (some ⟨B, 0, none⟩), .string a, .string z, .slice A l.length lc] w (Adds w F B (T ++ brack a z (commas (l.map fun u => u.o.at 1 false))) b) := by
 obtain ⟨hN, hp, hr⟩ := new2 hE hW #[.pointer (some ⟨B, 0, none⟩)] #[.slice A l.length lc] 57 23
 have HS0 := Lib.hid hN.sit
 have HFIN := Lib.hid hN.fin
 have HP := Lib.hid hp
 have HR := Lib.hid hr
 have HRow := Lib.hid (hN.row _ _ hR)
 have HA := Lib.hid ha
 have HZ := Lib.hid hz
 clear hN hp hr hE hW hR ha hz
 go_enter Tryz.func140, Tryz.ntmps140
 go_wp2_with fail
 generalize (w.alloc (.cells #[.pointer (some ⟨B, 0, none⟩)] 57)).alloc (.cells #[.slice A l.length lc] 23) = w0 at *
 generalize Ex F w.heap.size 2 = G at *
 refine (enclose_any G B T b vs a z 147 _ (commas (l.map fun u => u.o.at 1 false)) w0 HS0.out.env.hF HS0.out.wr (by simp at hlim; omega) HA.out HZ.out (enters_of Tryz.func147 (by kernel_rfl) rfl) ?cc).mono ?_
 case cc =>
  intro w9 v9 hw9 hf9
  have H9 := Lib.hid (HS0.out.next hw9 hf9)
  have hlc := lens_commas (l.map fun u => u.o.at 1 false)
  exact (c_elems l hl G B _ false v9 n0 w9 _ _ A lc hlen H9.out.env H9.out.wr (HP.out.to hf9) (HR.out.to hf9) (H9.out.row HRow.out) (by simp at hlim ⊢; omega)).mono fun e w' h => h.free
 rintro e w1 ⟨rfl, hw, hf⟩
 have HX := Lib.hid hw
 have HY := Lib.hid hf
 clear hw hf
 go_wp2_with fail
 go_end0
 exact HFIN.out _ _ _ _ ⟨rfl, HX.out, HY.out⟩
end Go.Proofs.YtllpgoaanbiodaaGreatDoor.R
