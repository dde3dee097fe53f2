/-

-/
import Derived.Test.YtllpgoaanbiodaaGreatDoorMF
import Derived.Test.YtllpgoaanbiodaaGreatDoorMPi
import Derived.Test.YtllpgoaanbiodaaGreatDoorMQ0
import Derived.Test.YtllpgoaanbiodaaGreatDoorMBx
import Derived.Test.YtllpgoaanbiodaaGreatDoorMKd
import Derived.Test.YtllpgoaanbiodaaGreatDoorMUC
import Derived.Maps.AppendAt
import Derived.Laws.Tables
import Derived.Deep.Onto
import Derived.Deep.RegionHeld3
set_option maxHeartbeats 8000000
set_option maxRecDepth 20000
namespace Go.Proofs.YtllpgoaanbiodaaGreatDoor.R
open Go.RowKit Go.Proofs.YtllpgoaanbiodaaGreatDoor Go.Proofs.YtllpgoaanbiodaaGreatDoor.T
def Rd (w : World) (v : Value) (T : Ts) : Prop := ∃ A c, v = .slice A T.length c ∧ T.length ≤ c ∧ Strs w A T
def OwnS (w : World) (b : Nat) (v : Value) (T : Ts) : Prop := w.ownsRow b 9 1 v T.length (vals T)
theorem OwnS.below {w w' : World} {b : Nat} {v : Value} {T : Ts} (h : OwnS w b v T) (hb : Below w.heap.size w w') : OwnS w' b v T := own_push h fun k hk => hb.block k (h.lt k hk).2
theorem OwnS.mono {w : World} {b b' : Nat} {v : Value} {T : Ts} (h : OwnS w b v T) (hb : b' ≤ b) : OwnS w b' v T := World.ownsRow.mono h hb
theorem OwnS.rd {w : World} {b : Nat} {v : Value} {T : Ts} (h : OwnS w b v T) : Rd w v T := by
 rcases h.2 with ⟨rfl, h0⟩ | ⟨g, cap, cur, rfl, _, hg, hnc, _, _, htk⟩
 ·exact ⟨none, 0, by rw [h0], by omega, .inl (List.eq_nil_of_length_eq_zero h0)⟩
 ·refine ⟨_, cap, rfl, hnc, .inr ⟨g, 0, rfl, (Array.getElem?_eq_some_iff.1 hg).1, fun j hj => ?_⟩⟩
  have e : (vals T)[j]? = some (.string T[j]) := by simp [vals, hj]
  rw [← htk, List.getElem?_take_of_lt (by omega), Array.getElem?_toList] at e
  rw [Nat.zero_add]
  simp [World.cell?, hg, e]
theorem Rd.below {w w' : World} {v : Value} {T : Ts} (h : Rd w v T) (hb : Below w.heap.size w w') : Rd w' v T := by
 obtain ⟨A, c, e, hc, hs⟩ := h
 exact ⟨A, c, e, hc, hs.below hb⟩
theorem ownS_nil (w : World) (b : Nat) : OwnS w b (.slice none 0 0) [] := ⟨rfl, .inl ⟨rfl, rfl⟩⟩
abbrev Gives (f : Nat) (args : Array Value) (w : World) (T : Ts) : Prop := Calls Tryz.prog f args w fun e w' => ∃ v, e = .returned v ∧ OwnS w' w.heap.size v T ∧ Below w.heap.size w w'
theorem ownS_new (w : World) (T : Ts) (hT : T.length ≤ 8796093020000) : OwnS (w.alloc (.cells (vals T).toArray 9)) w.heap.size (.slice (some ⟨w.heap.size, 0, none⟩) T.length T.length) T := by
 refine ⟨by simp [vals], .inr ⟨w.heap.size, T.length, _, rfl, Nat.le_refl _, hp_new' w _, Nat.le_refl _, by unfold maxLen; omega, by simp [vals], ?_⟩⟩
 rw [List.take_of_length_le (by simp [vals])]
 where
 hp_new' (w : World) (o : Obj) : (w.alloc o).heap[w.heap.size]? = some o := by
  show (w.heap.push o)[w.heap.size]? = some o
  simp
theorem run_zero_none' {P : Program} {w : World} (t ty e : TypeId) (i : TypeInfo) (ht : P.underlying t = some (.slice e)) (hi : P.info? e = some i) (A : Option Addr) (n c c' : Nat) (hc : n ≤ c) :
  (Builtin.append_ #[t, t] ty #[.slice A n c, .slice none 0 c']).run P w = .ok (.slice A n c) w := by
 cases A <;> simp [Builtin.append_, run_underlying ht, sizeOf, typeInfo, hi, Builtin.lenOf, Builtin.firstCells, loadCells, hc, storeCells]
theorem run_strs {w : World} {b : Nat} {ty : TypeId} {v p : Value} {T U : Ts} (hown : OwnS w b v T) (hp : Rd w p U) (hb : b ≤ w.heap.size) (hl : T.length + U.length ≤ 8796093020000) :
  ∃ v' w', (Builtin.append_ #[22, 22] ty #[v, p]).run Tryz.prog w = .ok v' w' ∧ OwnS w' b v' (T ++ U) ∧ Below b w w' := by
 obtain ⟨i0, hi0, hz0, hz1, hz2⟩ := info_parts infoStr
 obtain ⟨A, c, rfl, hc, hs⟩ := hp
 rcases A with _ | ad
 ·obtain rfl : U = [] := by
   rcases hs with h | ⟨g, o, e, _⟩
   ·exact h
   ·cases e
  obtain ⟨A', c', rfl, hc', _⟩ := hown.rd
  refine ⟨_, w, run_zero_none' 22 ty 9 i0 Tryz.underlying22 hi0 A' T.length c' c hc', ?_, Below.refl _ _⟩
  rw [List.append_nil]
  exact hown
 ·have hnews : ∀ j u, (vals U)[j]? = some u → w.cell? (ad.add j) = some u := by
   rcases hs with rfl | ⟨g, o, e, _, h⟩
   ·intro j u h; simp at h
   ·injection e with e
    subst e
    intro j u hj
    obtain ⟨hj', e⟩ := List.getElem?_eq_some_iff.1 hj
    have hj2 : j < U.length := by simpa [vals] using hj'
    rw [add_lit, h j hj2, ← e]
    simp [vals]
  obtain ⟨v', w', hr, q2, q3, q4, q5⟩ := run_append_own_at (P := Tryz.prog) w b 22 ty 9 i0 _ 1 16 Tryz.underlying22 hi0 hz0 hz1 hz2 rfl (by decide) v T.length (vals T) hown ad U.length c (vals U) (by simp [vals]) hnews
   (by intro u hu; simp only [vals, List.mem_map] at hu; obtain ⟨s, _, rfl⟩ := hu; rfl) (by unfold maxLen; omega) (by omega) hb
  refine ⟨v', w', hr, ?_, (Below.refl b w).grown q3 hb (fun k hk => (hown.lt k hk).1)⟩
  show w'.ownsRow b 9 1 v' (T ++ U).length (vals (T ++ U))
  rw [List.length_append, show vals (T ++ U) = vals T ++ vals U from List.map_append]
  exact q2
theorem app_strs {w : World} {ops : Array Oper} {rest : List Oper} {o : Oper} {a : Act} {Q : Exit → Act → World → Prop} (hgd : o.guard = none) (sl x : Operand)
  (ho : o.op = .call { callee := .builtin .append, args := #[sl, x], argTypes := #[22, 22] })
  (b : Nat) (v p : Value) (T U : Ts) (hs : a.eval sl = v) (hx : a.eval x = p) (hown : OwnS w b v T) (hp : Rd w p U) (hb : b ≤ w.heap.size) (hl : T.length + U.length ≤ 8796093020000)
  (h : ∀ v' w', OwnS w' b v' (T ++ U) → Below b w w' → wpList Tryz.prog ops Q rest (a.put o.dst v') w') : wpList Tryz.prog ops Q (o :: rest) a w := by
 refine wpList_plain hgd fun K hK => ?_
 obtain ⟨v', w', hr, h1, h2⟩ := run_strs (ty := o.type) hown hp hb hl
 unfold Oper.wp execOp
 simp only [ho, resolve, invoke, builtin, Sem.run_bind, Sem.run_pure, Result.andThen_ok, List.map_toArray, List.map_cons, List.map_nil, hs, hx, hr]
 exact hK _ _ (h v' w' h1 h2)
theorem one_any (s : ByteArray) (w : World) : Gives 94 #[.string s] w [s] := by
 have HO := Lib.hid (ownS_new w [s] (by simp))
 have HB : Hid (Below w.heap.size w (w.alloc (.cells #[.string s] 9))) := (Below.refl _ _).alloc (Nat.le_refl _) _
 unfold Gives
 go_enter Tryz.func94, Tryz.ntmps94
 go_wp2_with fail
 go_ret
 exact ⟨_, rfl, HO.out, HB.out⟩
abbrev Ps := List (Value × Ts)
def flat (l : Ps) : Ts := l.flatMap (·.2)
theorem flat_snoc (l : Ps) (j : Nat) (h : j < l.length) : flat (l.take (j + 1)) = flat (l.take j) ++ l[j].2 := by
 unfold flat
 rw [snoc_get l j h, List.flatMap_append]
 simp
theorem flat_take (l : Ps) (j : Nat) : (flat (l.take j)).length ≤ (flat l).length := by
 have h : flat l = flat (l.take j) ++ flat (l.drop j) := by
  unfold flat
  rw [← List.flatMap_append, List.take_append_drop]
 rw [h, List.length_append]
 omega
theorem join_strs (l : Ps) (g c : Nat) (w : World) (hg : g < w.heap.size) (hc : ∀ j (h : j < l.length), w.cell? ⟨g, j, none⟩ = some l[j].1) (hp : ∀ p ∈ l, Rd w p.1 p.2) (hl : l.length ≤ 1000) (hT : (flat l).length ≤ 8796093020000) :
  Gives 48 #[.slice (some ⟨g, 0, none⟩) l.length c] w (flat l) := by
 have HC := Lib.hid hc
 have HP := Lib.hid hp
 clear hc hp
 unfold Gives
 go_enter Tryz.func48, Tryz.ntmps48
 go_wp2_with fail
 go_loopw [3, 5, 8] (fun u _ i wr => ∃ j : Nat, j ≤ l.length ∧ i = .int .i64 j ∧ Hid (OwnS wr w.heap.size u (flat (l.take j))) ∧ Hid (Below w.heap.size w wr))
  (fun _ _ i _ => l.length - (intOf i).toNat)
 case atStart => exact ⟨0, Nat.zero_le _, rfl, Lib.hid (ownS_nil _ _), Lib.hid (Below.refl _ _)⟩
 case round =>
  obtain ⟨j, hj, rfl, ho, hb⟩ := hrel
  by_cases hlt : j < l.length
  ·have hcx := (hb.out.cell (p := ⟨g, j, none⟩) hg).trans (HC.out j hlt)
   have HS := Lib.hid (flat_snoc l j hlt)
   have HR := Lib.hid ((HP.out l[j] (List.getElem_mem hlt)).below hb.out)
   have hlim : (flat (l.take j)).length + l[j].2.length ≤ 8796093020000 := by
    have h1 := flat_take l (j + 1)
    rw [HS.out, List.length_append] at h1
    omega
   have HL := Lib.hid hlim
   have HBS := Lib.hid hb.out.size
   generalize l[j] = y at *
   generalize flat (l.take j) = fj at *
   obtain ⟨yv, yt⟩ := y
   dsimp only at hcx HR HS hlim HL
   obtain ⟨A, cy, rfl, hcy, hsy⟩ := HR.out
   have HR2 : Hid (Rd wr (.slice A yt.length cy) yt) := Lib.hid ⟨A, cy, rfl, hcy, hsy⟩
   obtain ⟨B, cu, rfl, hcu, -⟩ := ho.out.rd
   clear hlim hsy hcy HR hcu
   go_wp2_with (at_builtin; refine app_strs rfl (.tmp 12) (.tmp 13) (by rfl) w.heap.size _ _ fj yt (by rfl) (by rfl) ho.out HR2.out HBS.out HL.out ?_)
   intro v' w' h1 h2
   have HO1 := Lib.hid h1
   have HB1 := Lib.hid (hb.out.trans h2)
   clear h1 h2 hcx ho hb HBS
   go_wp2_with fail
   go_roundw
   case rel => exact ⟨j + 1, by omega, by go_num, by rw [HS.out]; exact HO1, HB1⟩
   case measure => simp [intOf]; omega
  ·obtain rfl : j = l.length := by omega
   rw [List.take_length] at ho
   go_wp2_with fail
   go_ret
   exact ⟨_, rfl, ho.out, hb.out⟩
structure PS (w0 : World) (l : Ps) (w : World) : Prop where
 b : Below w0.heap.size w0 w
 o : ∀ p ∈ l, OwnS w 0 p.1 p.2
theorem PS.start (w0 w : World) (h : Below w0.heap.size w0 w) : PS w0 [] w := ⟨h, fun _ h => by cases h⟩
theorem PS.below {w0 w w' : World} {l : Ps} (h : PS w0 l w) (hb : Below w.heap.size w w') : PS w0 l w' := ⟨h.b.trans (hb.mono h.b.size), fun p hp => (h.o p hp).below hb⟩
theorem PS.drew {w0 w : World} {l : Ps} (h : PS w0 l w) : PS w0 l w.drew := ⟨h.b.drew, fun p hp => h.o p hp⟩
theorem PS.call {w0 w w' : World} {l : Ps} {v : Value} {T : Ts} (h : PS w0 l w) (hb : Below w.heap.size w w') (ho : OwnS w' w.heap.size v T) : PS w0 ((v, T) :: l) w' :=
 ⟨(h.below hb).b, fun p hp => by
  rcases List.mem_cons.1 hp with rfl | hp
  ·exact ho.mono (Nat.zero_le _)
  ·exact (h.below hb).o p hp⟩
theorem PS.add {w0 w : World} {l : Ps} {b : Nat} {v : Value} {T : Ts} (h : PS w0 l w) (ho : OwnS w b v T) : PS w0 ((v, T) :: l) w :=
 ⟨h.b, fun p hp => by
  rcases List.mem_cons.1 hp with rfl | hp
  ·exact ho.mono (Nat.zero_le _)
  ·exact h.o p hp⟩
theorem below_alloc' (w : World) (o : Obj) : Below w.heap.size w (w.alloc o) := (Below.refl _ _).alloc (Nat.le_refl _) _
theorem PS.lit2 {w0 w : World} {l : Ps} {s t : ByteArray} (h : PS w0 l w) : PS w0 ((.slice (some ⟨w.heap.size, 0, none⟩) 2 2, [s, t]) :: l) (w.alloc (.cells #[.string s, .string t] 9)) := h.call (below_alloc' _ _) (ownS_new w [s, t] (by simp))
theorem PS.lit4 {w0 w : World} {l : Ps} {s t u x : ByteArray} (h : PS w0 l w) : PS w0 ((.slice (some ⟨w.heap.size, 0, none⟩) 4 4, [s, t, u, x]) :: l) (w.alloc (.cells #[.string s, .string t, .string u, .string x] 9)) := h.call (below_alloc' _ _) (ownS_new w [s, t, u, x] (by simp))
theorem PS.undrew {w0 w : World} {l : Ps} (h : PS w0 l w.drew) : PS w0 l w := ⟨⟨h.b.os, h.b.tape, h.b.output, h.b.size, h.b.block⟩, fun p hp => h.o p hp⟩
theorem PS.lit2d {w0 w : World} {l : Ps} {s t : ByteArray} (h : PS w0 l w.drew) : PS w0 ((.slice (some ⟨w.heap.size, 0, none⟩) 2 2, [s, t]) :: l) (w.alloc (.cells #[.string s, .string t] 9)).drew := h.undrew.lit2.drew
theorem PS.lit4d {w0 w : World} {l : Ps} {s t u x : ByteArray} (h : PS w0 l w.drew) : PS w0 ((.slice (some ⟨w.heap.size, 0, none⟩) 4 4, [s, t, u, x]) :: l) (w.alloc (.cells #[.string s, .string t, .string u, .string x] 9)).drew := h.undrew.lit4.drew
theorem PS.bal {w0 w : World} {l : Ps} (h : PS w0 l w) (o : Obj) : Below w0.heap.size w0 (w.alloc o) := h.b.alloc h.b.size o
theorem PS.bal2 {w0 w : World} {l : Ps} (h : PS w0 l w) (o o' : Obj) : Below w0.heap.size w0 ((w.alloc o).alloc o') := (h.bal o).alloc (h.bal o).size o'
theorem PS.bald {w0 w : World} {l : Ps} (h : PS w0 l w.drew) (o : Obj) : Below w0.heap.size w0 (w.alloc o).drew := (h.undrew.bal o).drew
theorem join_lits {w0 w : World} {l m : Ps} (h : PS w0 l w) (hm : ∀ p ∈ m, p ∈ l) (hl : m.length ≤ 1000) {T : Ts} (hT : flat m = T) (hlen : T.length ≤ 8796093020000) :
  Calls Tryz.prog 48 #[.slice (some ⟨w.heap.size, 0, none⟩) m.length m.length] (w.alloc (.cells (m.map (·.1)).toArray 22)) fun e w' => ∃ v, e = .returned v ∧ OwnS w' w0.heap.size v T ∧ Below w0.heap.size w0 w' := by
 subst hT
 have hb := below_alloc' w (.cells (m.map (·.1)).toArray 22)
 have h2 := h.below hb
 refine (join_strs m w.heap.size m.length _ (by simp) (fun j hj => ?_) (fun p hp => (h2.o p (hm p hp)).rd) hl hlen).mono ?_
 ·rw [World.cell?_alloc_at _ _ _ _ rfl]
  simp [hj]
 ·rintro e w' ⟨v, rfl, h3, h4⟩
  exact ⟨v, rfl, h3.mono h2.b.size, h2.b.trans (h4.mono h2.b.size)⟩
theorem join_2 {w0 w : World} {l : Ps} {v1 v2 : Value} {gg : Nat} {T1 T2 T : Ts} (h : PS w0 l w) (h1 : (v1, T1) ∈ l) (h2 : (v2, T2) ∈ l) (hT : T1 ++ T2 = T) (hlen : T.length ≤ 8796093020000) (hgg : gg = w.heap.size) :
  Calls Tryz.prog 48 #[.slice (some ⟨gg, 0, none⟩) 2 2] (w.alloc (.cells #[v1, v2] 22)) fun e w' => ∃ v, e = .returned v ∧ OwnS w' w0.heap.size v T ∧ Below w0.heap.size w0 w' := by
 subst hgg
 exact join_lits (m := [(v1, T1), (v2, T2)]) h (by simp [h1, h2]) (by simp) (by rw [← hT]; simp [flat]) hlen
theorem join_3 {w0 w : World} {l : Ps} {v1 v2 v3 : Value} {gg : Nat} {T1 T2 T3 T : Ts} (h : PS w0 l w) (h1 : (v1, T1) ∈ l) (h2 : (v2, T2) ∈ l) (h3 : (v3, T3) ∈ l) (hT : T1 ++ (T2 ++ T3) = T) (hlen : T.length ≤ 8796093020000) (hgg : gg = w.heap.size) :
  Calls Tryz.prog 48 #[.slice (some ⟨gg, 0, none⟩) 3 3] (w.alloc (.cells #[v1, v2, v3] 22)) fun e w' => ∃ v, e = .returned v ∧ OwnS w' w0.heap.size v T ∧ Below w0.heap.size w0 w' := by
 subst hgg
 exact join_lits (m := [(v1, T1), (v2, T2), (v3, T3)]) h (by simp [h1, h2, h3]) (by simp) (by rw [← hT]; simp [flat]) hlen
theorem join_4 {w0 w : World} {l : Ps} {v1 v2 v3 v4 : Value} {gg : Nat} {T1 T2 T3 T4 T : Ts} (h : PS w0 l w) (h1 : (v1, T1) ∈ l) (h2 : (v2, T2) ∈ l) (h3 : (v3, T3) ∈ l) (h4 : (v4, T4) ∈ l) (hT : T1 ++ (T2 ++ (T3 ++ T4)) = T) (hlen : T.length ≤ 8796093020000) (hgg : gg = w.heap.size) :
  Calls Tryz.prog 48 #[.slice (some ⟨gg, 0, none⟩) 4 4] (w.alloc (.cells #[v1, v2, v3, v4] 22)) fun e w' => ∃ v, e = .returned v ∧ OwnS w' w0.heap.size v T ∧ Below w0.heap.size w0 w' := by
 subst hgg
 exact join_lits (m := [(v1, T1), (v2, T2), (v3, T3), (v4, T4)]) h (by simp [h1, h2, h3, h4]) (by simp) (by rw [← hT]; simp [flat]) hlen
theorem join_5 {w0 w : World} {l : Ps} {v1 v2 v3 v4 v5 : Value} {gg : Nat} {T1 T2 T3 T4 T5 T : Ts} (h : PS w0 l w) (h1 : (v1, T1) ∈ l) (h2 : (v2, T2) ∈ l) (h3 : (v3, T3) ∈ l) (h4 : (v4, T4) ∈ l) (h5 : (v5, T5) ∈ l) (hT : T1 ++ (T2 ++ (T3 ++ (T4 ++ T5))) = T) (hlen : T.length ≤ 8796093020000) (hgg : gg = w.heap.size) :
  Calls Tryz.prog 48 #[.slice (some ⟨gg, 0, none⟩) 5 5] (w.alloc (.cells #[v1, v2, v3, v4, v5] 22)) fun e w' => ∃ v, e = .returned v ∧ OwnS w' w0.heap.size v T ∧ Below w0.heap.size w0 w' := by
 subst hgg
 exact join_lits (m := [(v1, T1), (v2, T2), (v3, T3), (v4, T4), (v5, T5)]) h (by simp [h1, h2, h3, h4, h5]) (by simp) (by rw [← hT]; simp [flat]) hlen
theorem join_6 {w0 w : World} {l : Ps} {v1 v2 v3 v4 v5 v6 : Value} {gg : Nat} {T1 T2 T3 T4 T5 T6 T : Ts} (h : PS w0 l w) (h1 : (v1, T1) ∈ l) (h2 : (v2, T2) ∈ l) (h3 : (v3, T3) ∈ l) (h4 : (v4, T4) ∈ l) (h5 : (v5, T5) ∈ l) (h6 : (v6, T6) ∈ l)
  (hT : T1 ++ (T2 ++ (T3 ++ (T4 ++ (T5 ++ T6)))) = T) (hlen : T.length ≤ 8796093020000) (hgg : gg = w.heap.size) :
  Calls Tryz.prog 48 #[.slice (some ⟨gg, 0, none⟩) 6 6] (w.alloc (.cells #[v1, v2, v3, v4, v5, v6] 22)) fun e w' => ∃ v, e = .returned v ∧ OwnS w' w0.heap.size v T ∧ Below w0.heap.size w0 w' := by
 subst hgg
 exact join_lits (m := [(v1, T1), (v2, T2), (v3, T3), (v4, T4), (v5, T5), (v6, T6)]) h (by simp [h1, h2, h3, h4, h5, h6]) (by simp) (by rw [← hT]; simp [flat]) hlen
theorem join_8 {w0 w : World} {l : Ps} {v1 v2 v3 v4 v5 v6 v7 v8 : Value} {gg : Nat} {T1 T2 T3 T4 T5 T6 T7 T8 T : Ts} (h : PS w0 l w) (h1 : (v1, T1) ∈ l) (h2 : (v2, T2) ∈ l) (h3 : (v3, T3) ∈ l) (h4 : (v4, T4) ∈ l) (h5 : (v5, T5) ∈ l) (h6 : (v6, T6) ∈ l) (h7 : (v7, T7) ∈ l) (h8 : (v8, T8) ∈ l)
  (hT : T1 ++ (T2 ++ (T3 ++ (T4 ++ (T5 ++ (T6 ++ (T7 ++ T8)))))) = T) (hlen : T.length ≤ 8796093020000) (hgg : gg = w.heap.size) :
  Calls Tryz.prog 48 #[.slice (some ⟨gg, 0, none⟩) 8 8] (w.alloc (.cells #[v1, v2, v3, v4, v5, v6, v7, v8] 22)) fun e w' => ∃ v, e = .returned v ∧ OwnS w' w0.heap.size v T ∧ Below w0.heap.size w0 w' := by
 subst hgg
 exact join_lits (m := [(v1, T1), (v2, T2), (v3, T3), (v4, T4), (v5, T5), (v6, T6), (v7, T7), (v8, T8)]) h (by simp [h1, h2, h3, h4, h5, h6, h7, h8]) (by simp) (by rw [← hT]; simp [flat]) hlen
theorem infoStrs : (Tryz.prog.info? 22).map (fun i => (i.zero, i.size, i.bytes)) = some (some (.slice none 0 0), 1, 24) := by kernel_rfl
abbrev heads (l : Ps) : List Value := l.map (·.1)
abbrev texts (l : Ps) : List Ts := l.map (·.2)
structure OwnR (w : World) (b : Nat) (v : Value) (l : Ps) : Prop where
 row : w.ownsRow b 22 1 v l.length (heads l)
 own : ∀ p ∈ l, OwnS w b p.1 p.2
theorem ownR_nil (w : World) (b : Nat) : OwnR w b (.slice none 0 0) [] := ⟨⟨rfl, .inl ⟨rfl, rfl⟩⟩, fun _ h => by cases h⟩
theorem OwnR.below {w w' : World} {b : Nat} {v : Value} {l : Ps} (h : OwnR w b v l) (hb : Below w.heap.size w w') : OwnR w' b v l := ⟨own_push h.row fun k hk => hb.block k (h.row.lt k hk).2, fun p hp => (h.own p hp).below hb⟩
theorem OwnR.form {w : World} {b : Nat} {v : Value} {l : Ps} (h : OwnR w b v l) : ∃ A c, v = .slice A l.length c ∧ l.length ≤ c ∧ (l = [] ∨ ∃ g, A = some ⟨g, 0, none⟩ ∧ g < w.heap.size ∧ ∀ j (h : j < l.length), w.cell? ⟨g, j, none⟩ = some l[j].1) := by
 rcases h.row.2 with ⟨rfl, h0⟩ | ⟨g, cap, cur, rfl, _, hg, hnc, _, _, htk⟩
 ·exact ⟨none, 0, by rw [h0], by omega, .inl (List.eq_nil_of_length_eq_zero h0)⟩
 ·refine ⟨_, cap, rfl, hnc, .inr ⟨g, rfl, (Array.getElem?_eq_some_iff.1 hg).1, fun j hj => ?_⟩⟩
  have e : (heads l)[j]? = some l[j].1 := by simp [hj]
  rw [← htk, List.getElem?_take_of_lt (by omega), Array.getElem?_toList] at e
  simp [World.cell?, hg, e]
theorem run_slice {w : World} {b : Nat} {ty : TypeId} {v p : Value} {l : Ps} {T : Ts} (hown : OwnR w b v l) (hp : OwnS w b p T) (hb : b ≤ w.heap.size) (hl : l.length ≤ 4194304) :
  ∃ v' w', (Builtin.append_ #[79, 79] ty #[v, .slice (some ⟨w.heap.size, 0, none⟩) 1 1]).run Tryz.prog (w.alloc (.cells #[p] 22)) = .ok v' w' ∧ OwnR w' b v' (l ++ [(p, T)]) ∧ Below b w w' := by
 obtain ⟨i0, hi0, hz0, hz1, hz2⟩ := info_parts infoStrs
 have hba := below_alloc' w (.cells #[p] 22)
 have h1 := hown.below hba
 have h2 := hp.below hba
 obtain ⟨A, c, rfl, hc, -⟩ := hp.rd
 obtain ⟨v', w', hr, q2, q3, q4, q5⟩ := run_append_own_at (P := Tryz.prog) (w := w.alloc (.cells #[.slice A T.length c] 22)) b 79 ty 22 i0 _ 1 24 Tryz.underlying79 hi0 hz0 hz1 hz2 rfl (by decide) v l.length (heads l) h1.row ⟨w.heap.size, 0, none⟩ 1 1 [.slice A T.length c] rfl
  (by intro j u hj; rw [add_lit, World.cell?_alloc_at _ _ _ _ rfl]; simpa using hj) (by intro u hu; simp only [List.mem_cons, List.not_mem_nil, or_false] at hu; rw [hu]; rfl) (by unfold maxLen; omega) (by omega) (by simp; omega)
 have hbel : Below b (w.alloc (.cells #[.slice A T.length c] 22)) w' := (Below.refl b _).grown q3 (by simp; omega) (fun k hk => (h1.row.lt k hk).1)
 -- every piece's row is another block than the row that is appended to
 have hoth : ∀ (p : Value) (U : Ts), OwnS (w.alloc (.cells #[.slice A T.length c] 22)) b p U → OwnS w' b p U := fun p U h => own_push h fun k hk => q3.block k (h.lt k hk).2 (fun e => by
  rcases h1.row.2 with ⟨rfl, _⟩ | ⟨g, cap, cur, rfl, _, hg, _⟩
  ·cases e
  ·have e2 : k = g := by simpa [Value.ownBlock] using e
   subst e2
   rcases h.2 with ⟨rfl, _⟩ | ⟨g2, cap2, cur2, rfl, _, hg2, _⟩
   ·cases hk
   ·have e3 : g2 = k := by simpa [Value.ownBlock] using hk
    subst e3
    rw [hg] at hg2
    simp at hg2)
 refine ⟨v', w', hr, ⟨?_, fun q hq => ?_⟩, (hba.mono hb).trans hbel⟩
 ·show w'.ownsRow b 22 1 v' (l ++ [(Value.slice A T.length c, T)]).length (heads (l ++ [(Value.slice A T.length c, T)]))
  rw [List.length_append, show heads (l ++ [(Value.slice A T.length c, T)]) = heads l ++ [Value.slice A T.length c] from List.map_append]
  exact q2
 ·rcases List.mem_append.1 hq with hq | hq
  ·exact hoth _ _ (h1.own q hq)
  ·obtain rfl : q = (Value.slice A T.length c, T) := by simpa using hq
   exact hoth _ _ h2
theorem app_slice {w w0 : World} {ops : Array Oper} {rest : List Oper} {o : Oper} {a : Act} {Q : Exit → Act → World → Prop} (hgd : o.guard = none) (sl x : Operand)
  (ho : o.op = .call { callee := .builtin .append, args := #[sl, x], argTypes := #[79, 79] })
  (b : Nat) (v p : Value) (l : Ps) (T : Ts) (hs : a.eval sl = v) (hx : a.eval x = .slice (some ⟨w0.heap.size, 0, none⟩) 1 1) (hw : w = w0.alloc (.cells #[p] 22)) (hown : OwnR w0 b v l) (hp : OwnS w0 b p T) (hb : b ≤ w0.heap.size) (hl : l.length ≤ 4194304)
  (h : ∀ v' w', OwnR w' b v' (l ++ [(p, T)]) → Below b w0 w' → wpList Tryz.prog ops Q rest (a.put o.dst v') w') : wpList Tryz.prog ops Q (o :: rest) a w := by
 refine wpList_plain hgd fun K hK => ?_
 subst hw
 obtain ⟨v', w', hr, h1, h2⟩ := run_slice (ty := o.type) hown hp hb hl
 unfold Oper.wp execOp
 simp only [ho, resolve, invoke, builtin, Sem.run_bind, Sem.run_pure, Result.andThen_ok, List.map_toArray, List.map_cons, List.map_nil, hs, hx, hr]
 exact hK _ _ (h v' w' h1 h2)
theorem commas_of (l : List Ts) (j : Nat) : (commas (l.take j)).length ≤ (commas l).length := by
 rw [show commas l = commas (l.take j ++ l.drop j) by rw [List.take_append_drop]]
 generalize l.take j = a
 generalize l.drop j = c
 induction c generalizing a with
 | nil => rw [List.append_nil]; omega
 | cons x r ih =>
  have h := ih (a ++ [x])
  rw [List.append_assoc, List.singleton_append] at h
  rw [commas_snoc] at h
  split at h
  ·rename_i e
   subst e
   simp [commas]
  ·rw [List.length_append] at h
   omega
theorem refCommas_any (l : Ps) (v : Value) (b : Nat) (w : World) (hv : OwnR w b v l) (hl : l.length ≤ 4194304) (hT : (commas (texts l)).length ≤ 8796093000000) :
  Gives 127 #[v] w (commas (texts l)) := by
 have HP := Lib.hid fun p hp => (hv.own p hp).rd
 obtain ⟨A, c, rfl, hc0, hcc⟩ := hv.form
 have HC := Lib.hid hcc
 clear hv hcc
 unfold Gives
 go_enter Tryz.func127, Tryz.ntmps127
 go_wp2_with fail
 go_loopw [3, 4, 5, 8] (fun u _ _ i wr => ∃ j : Nat, j ≤ l.length ∧ i = .int .i64 j ∧ Hid (OwnS wr w.heap.size u (commas ((texts l).take j))) ∧ Hid (Below w.heap.size w wr))
  (fun _ _ _ i _ => l.length - (intOf i).toNat)
 case atStart => exact ⟨0, Nat.zero_le _, rfl, Lib.hid (ownS_nil _ _), Lib.hid (Below.refl _ _)⟩
 case round =>
  obtain ⟨j, hj, rfl, ho, hb⟩ := hrel
  by_cases hlt : j < l.length
  ·obtain ⟨g, rfl, hg, hcj⟩ : ∃ g, A = some ⟨g, 0, none⟩ ∧ g < w.heap.size ∧ ∀ j (h : j < l.length), w.cell? ⟨g, j, none⟩ = some l[j].1 := by
    rcases HC.out with h | h
    ·subst h; simp at hlt
    ·exact h
   have hcx := (hb.out.cell (p := ⟨g, j, none⟩) hg).trans (hcj j hlt)
   have hltm : j < (texts l).length := by simpa using hlt
   have HS := Lib.hid (commas_take (texts l) j hltm)
   have HR := Lib.hid (HP.out l[j] (List.getElem_mem hlt))
   have h1 := commas_of (texts l) (j + 1)
   have HL : Hid ((commas ((texts l).take (j + 1))).length ≤ 8796093000000) := Lib.hid (Nat.le_trans h1 hT)
   have hgt : (texts l)[j] = l[j].2 := by simp
   rw [hgt] at HS
   rw [HS.out] at HL
   have HBS := Lib.hid hb.out.size
   have HF0 : Hid (j = 0 → commas ((texts l).take j) = []) := fun e => by subst e; rfl
   clear h1 hgt hltm hcj
   generalize l[j] = y at *
   generalize commas ((texts l).take j) = fj at *
   obtain ⟨yv, yt⟩ := y
   dsimp only at hcx HR HS HL
   obtain ⟨A, cy, rfl, hcy, hsy⟩ := HR.out
   have HR0 : Hid (Rd w (.slice A yt.length cy) yt) := Lib.hid ⟨A, cy, rfl, hcy, hsy⟩
   have HR2 := Lib.hid (HR0.out.below hb.out)
   obtain ⟨B, cu, rfl, hcu, -⟩ := ho.out.rd
   clear hsy hcy HR hcu
   by_cases hj0 : j = 0
   ·rw [if_pos hj0] at HS HL
    have hf0 : Hid (fj = []) := HF0.out hj0
    clear HF0
    subst hj0
    have hlim : fj.length + yt.length ≤ 8796093020000 := by
     have := HL.out
     have e := hf0.out
     subst e
     simp
     omega
    have HL2 := Lib.hid hlim
    clear hlim HL
    go_wp2_with (at_builtin; refine app_strs rfl (.tmp 18) (.tmp 19) (by rfl) w.heap.size _ _ fj yt (by rfl) (by rfl) ho.out HR2.out HBS.out HL2.out ?_)
    intro v' w' h1 h2
    rw [hf0.out] at h1
    have HO1 := Lib.hid h1
    have HB1 := Lib.hid (hb.out.trans h2)
    clear h1 h2 hcx ho hb HBS
    go_wp2_with fail
    go_roundw
    case rel => exact ⟨0 + 1, by omega, by go_num, by rw [HS.out]; exact HO1, HB1⟩
    case measure => simp [intOf]; omega
   ·rw [if_neg hj0] at HS HL
    clear HF0
    have hji : (0 : Int) < (j : Int) := by omega
    have hl1 : fj.length + 1 ≤ 8796093020000 := by
     have := HL.out
     rw [List.length_append, List.length_cons] at this
     omega
    have hl2 : (fj ++ ([⟨#[44]⟩] : Ts)).length + yt.length ≤ 8796093020000 := by
     have := HL.out
     rw [List.length_append, List.length_cons] at this
     simp
     omega
    have HL1 := Lib.hid hl1
    have HL2 := Lib.hid hl2
    have HBA := Lib.hid (below_alloc' wr (.cells #[.string ⟨#[44]⟩] 9))
    have HON := Lib.hid ((ownS_new wr [⟨#[44]⟩] (by simp)).rd)
    have HO0 := Lib.hid (ho.out.below HBA.out)
    have HBS1 : Hid (w.heap.size ≤ (wr.alloc (.cells #[.string ⟨#[44]⟩] 9)).heap.size) := Lib.hid (Nat.le_trans HBS.out HBA.out.size)
    have HBB := Lib.hid (HBA.out.mono HBS.out)
    clear hl1 hl2 HL HR2
    go_wp2_with (at_builtin; refine app_strs rfl (.tmp 15) (.tmp 16) (by rfl) w.heap.size _ _ fj [⟨#[44]⟩] (by rfl) (by rfl) HO0.out HON.out HBS1.out HL1.out ?_)
    intro v1 w1 h1 h2
    have HO1 := Lib.hid h1
    have HB1 := Lib.hid ((HBB.out).trans h2)
    have HBT := Lib.hid (hb.out.trans HB1.out)
    have HR4 := Lib.hid (HR0.out.below HBT.out)
    have HBS2 := Lib.hid HBT.out.size
    obtain ⟨B1, cu1, rfl, hcu1, -⟩ := h1.rd
    clear h1 h2 hb HO0 HON HBS1 HBB HBA HB1 hcu1
    go_wp2_with (at_builtin; refine app_strs rfl (.tmp 18) (.tmp 19) (by rfl) w.heap.size _ _ (fj ++ [⟨#[44]⟩]) yt (by rfl) (by rfl) HO1.out HR4.out HBS2.out HL2.out ?_)
    intro v2 w2 h1 h2
    have HO2 := Lib.hid h1
    have HB2 := Lib.hid (HBT.out.trans h2)
    clear h1 h2 hcx ho HBT HBS HO1
    go_wp2_with fail
    go_roundw
    case rel => exact ⟨j + 1, by omega, by go_num, by rw [HS.out]; exact HO2, HB2⟩
    case measure => simp [intOf]; omega
  ·obtain rfl : j = l.length := by omega
   rw [show (texts l).take l.length = texts l from by rw [← List.length_map (f := (·.2)), List.take_length]] at ho
   go_wp2_with fail
   go_ret
   exact ⟨_, rfl, ho.out, hb.out⟩
def TellA (v : V) : Prop := ∀ (m : Nat) (i : Int) (no : Bool) (x : X) (w : World), i = (m : Int) → m ≤ 13 → Is w v x → Gives 99 #[x.v, .int .i64 i, .bool no] w (v.o.at m no)
def TellR (v : V) : Prop := ∀ (no : Bool) (x : X) (w : World), Is w v x → Gives 129 #[x.v, .bool no] w (v.o.raw no)
def TellS (v : V) : Prop := ∀ (x : X) (w : World), Is w v x → Gives 49 #[x.v] w v.o.st
theorem at_alloc' (w : World) (y : X) : At (w.alloc (.cells y.cells 25)) w.heap.size 0 y := at_row (hp_new rfl) rfl rfl rfl rfl rfl rfl
theorem refList_of (l : List V) (A : Option Addr) (c : Nat) (w : World) (hr : Row w A l) (H : ∀ u ∈ l, TellA u) (hl : l.length ≤ 4194304) (hT : (commas (l.map fun u => u.o.at 1 false)).length ≤ 8796093000000) :
  Gives 136 #[.slice A l.length c] w (commas (l.map fun u => u.o.at 1 false)) := by
 have HH := Lib.hid H
 have HR := Lib.hid hr
 have HT := Lib.hid hT
 obtain ⟨T, hTT⟩ : ∃ T, commas (l.map fun u => u.o.at 1 false) = T := ⟨_, rfl⟩
 rw [hTT]
 have HTT := Lib.hid hTT
 clear H hr hT hTT
 unfold Gives
 go_enter Tryz.func136, Tryz.ntmps136
 go_wp2_with fail
 go_loopw [3, 5, 8] (fun u _ i wr => ∃ (j : Nat) (ps : Ps), j ≤ l.length ∧ Hid (ps.length = j) ∧ i = .int .i64 j ∧ Hid (texts ps = (l.take j).map fun u => u.o.at 1 false) ∧ Hid (OwnR wr w.heap.size u ps) ∧ Hid (Below w.heap.size w wr))
  (fun _ _ i _ => l.length - (intOf i).toNat)
 case atStart => exact ⟨0, [], Nat.zero_le _, Lib.hid rfl, rfl, Lib.hid rfl, Lib.hid (ownR_nil _ _), Lib.hid (Below.refl _ _)⟩
 case round =>
  obtain ⟨j, ps, hj, hpj, rfl, hps, ho, hb⟩ := hrel
  by_cases hlt : j < l.length
  ·obtain ⟨g, o, rfl, hg, y, hy, hv⟩ := HR.out.at_ hlt
   obtain ⟨c0, c1, c2, c3, c4, c5⟩ := hy.below hg hb.out
   have HA := Lib.hid fun w' (hb' : Below w.heap.size w w') => HH.out l[j] (List.getElem_mem hlt) 1 1 false y w' rfl (by decide) (Is.below hb' _ _ hv)
   have HS : Hid ((l.take (j + 1)).map (fun u => u.o.at 1 false) = texts ps ++ [l[j].o.at 1 false]) := by
    show _ = _
    rw [snoc_get l j hlt, List.map_append, hps.out]
    rfl
   have HBA := Lib.hid (below_alloc' wr (.cells y.cells 25))
   have HOA := Lib.hid (ho.out.below HBA.out)
   have HBW : Hid (Below w.heap.size w (wr.alloc (.cells y.cells 25))) := Lib.hid (hb.out.alloc hb.out.size _)
   have HPL : Hid (ps.length ≤ 4194304) := Lib.hid (by have := hpj.out; omega)
   obtain ⟨B, cu, rfl, hcu, -⟩ := ho.out.form
   obtain ⟨yk, ynm, yn, ys, yka, ykn, ykc, yla, yln, ylc⟩ := y
   simp only [X.v, X.cells] at HA HBA HBW HOA
   dsimp only at c0 c1 c2 c3 c4 c5
   generalize l[j].o.at 1 false = yt at *
   clear hv hy ho hb hcu
   go_wp2_with fail
   refine (HA.out _ HBW.out).mono ?_
   rintro e w1 ⟨v1, rfl, ho1, hb1⟩
   have HB1 := Lib.hid (HBW.out.trans (hb1.mono HBW.out.size))
   have HO1 := Lib.hid (HOA.out.below hb1)
   have HV1 := Lib.hid (ho1.mono HBW.out.size)
   obtain ⟨A1, cw, rfl, -, -⟩ := ho1.rd
   clear c0 c1 c2 c3 c4 c5 ho1 hb1 HOA HBA HBW
   have HBS := Lib.hid HB1.out.size
   go_wp2_with (at_builtin; refine app_slice rfl (.tmp 12) (.tmp 15) (by rfl) w.heap.size _ _ ps yt (by rfl) (by rfl) rfl HO1.out HV1.out HBS.out HPL.out ?_)
   intro v2 w2 h1 h2
   have HO2 := Lib.hid h1
   have HB2 := Lib.hid (HB1.out.trans h2)
   clear h1 h2 HO1 HV1 HB1 HBS
   go_wp2_with fail
   go_roundw
   case rel => exact ⟨j + 1, _, by omega, Lib.hid (by rw [List.length_append, hpj.out]; rfl), by go_num, by show _ = _; rw [HS.out]; simp [texts], HO2, HB2⟩
   case measure => simp [intOf]; omega
  ·obtain rfl : j = l.length := by omega
   rw [List.take_length] at hps
   have HC := Lib.hid (refCommas_any ps _ w.heap.size wr ho.out (by have := hpj.out; omega) (by rw [hps.out]; exact HT.out))
   rw [hps.out, HTT.out] at HC
   obtain ⟨B, cu, rfl, hcu, -⟩ := ho.out.form
   clear hcu ho
   go_wp2_with fail
   refine HC.out.mono ?_
   rintro e w1 ⟨v1, rfl, ho1, hb1⟩
   have HO := Lib.hid (ho1.mono hb.out.size)
   have HB := Lib.hid (hb.out.trans (hb1.mono hb.out.size))
   clear ho1 hb1
   go_wp2_with fail
   go_ret
   exact ⟨_, rfl, HO.out, HB.out⟩
theorem stmtsO_snoc (l : List O) (j : Nat) (h : j < l.length) : stmts (l.take (j + 1)) = stmts (l.take j) ++ l[j].st := by
 unfold stmts
 rw [List.take_succ_eq_append_getElem h, List.flatMap_append]
 simp
theorem stmtsO_take (l : List O) (j : Nat) : (stmts (l.take j)).length ≤ (stmts l).length := by
 have h : stmts l = stmts (l.take j) ++ stmts (l.drop j) := by
  unfold stmts
  rw [← List.flatMap_append, List.take_append_drop]
 rw [h, List.length_append]
 omega
theorem refStmtsT_of (l : List V) (A : Option Addr) (c : Nat) (w : World) (hr : Row w A l) (H : ∀ u ∈ l, TellS u) (hl : l.length ≤ 4194304) (hT : (stmts (l.map V.o)).length ≤ 8796093000000) :
  Gives 34 #[.slice A l.length c] w (stmts (l.map V.o)) := by
 have HH := Lib.hid H
 have HR := Lib.hid hr
 have HT := Lib.hid hT
 clear H hr hT
 unfold Gives
 go_enter Tryz.func34, Tryz.ntmps34
 go_wp2_with fail
 go_loopw [3, 5, 8] (fun u _ i wr => ∃ (j : Nat), j ≤ l.length ∧ i = .int .i64 j ∧ Hid (OwnS wr w.heap.size u (stmts ((l.map V.o).take j))) ∧ Hid (Below w.heap.size w wr))
  (fun _ _ i _ => l.length - (intOf i).toNat)
 case atStart => exact ⟨0, Nat.zero_le _, rfl, Lib.hid (ownS_nil _ _), Lib.hid (Below.refl _ _)⟩
 case round =>
  obtain ⟨j, hj, rfl, ho, hb⟩ := hrel
  by_cases hlt : j < l.length
  ·obtain ⟨g, o, rfl, hg, y, hy, hv⟩ := HR.out.at_ hlt
   obtain ⟨c0, c1, c2, c3, c4, c5⟩ := hy.below hg hb.out
   have HA := Lib.hid fun w' (hb' : Below w.heap.size w w') => HH.out l[j] (List.getElem_mem hlt) y w' (Is.below hb' _ _ hv)
   have hltm : j < (l.map V.o).length := by simpa using hlt
   have hS := stmtsO_snoc (l.map V.o) j hltm
   have hgt : (l.map V.o)[j] = l[j].o := by simp
   rw [hgt] at hS
   have HS := Lib.hid hS.symm
   have HL : Hid ((stmts ((l.map V.o).take (j + 1))).length ≤ 8796093020000) := Lib.hid (Nat.le_trans (stmtsO_take (l.map V.o) (j + 1)) (Nat.le_trans HT.out (by decide)))
   have HBA := Lib.hid (below_alloc' wr (.cells y.cells 25))
   obtain ⟨fj, hfj⟩ : ∃ fj, stmts ((l.map V.o).take j) = fj := ⟨_, rfl⟩
   obtain ⟨fj1, hfj1⟩ : ∃ fj1, stmts ((l.map V.o).take (j + 1)) = fj1 := ⟨_, rfl⟩
   rw [hfj] at ho HS
   rw [hfj1] at HS HL
   have HFJ := Lib.hid hfj1
   obtain ⟨B, cu, rfl, hcu, -⟩ := ho.out.rd
   have HPS : Hid (PS w [(.slice B fj.length cu, fj)] (wr.alloc (.cells y.cells 25))) := Lib.hid (((PS.mk hb.out (fun p hp => by obtain rfl := List.mem_singleton.1 hp; exact ho.out.mono (Nat.zero_le _))) : PS w [(.slice B fj.length cu, fj)] wr).below HBA.out)
   obtain ⟨yk, ynm, yn, ys, yka, ykn, ykc, yla, yln, ylc⟩ := y
   simp only [X.v, X.cells] at HA HPS
   dsimp only at c0 c1 c2 c3 c4 c5
   generalize l[j].o.st = yt at *
   clear hv hy ho hb hcu hS hgt hltm HBA hfj hfj1
   go_wp2_with fail
   refine (HA.out _ HPS.out.b).mono ?_
   rintro e w1 ⟨v1, rfl, ho1, hb1⟩
   have HP1 := Lib.hid (HPS.out.call hb1 ho1)
   obtain ⟨A1, cw, rfl, -, -⟩ := ho1.rd
   clear c0 c1 c2 c3 c4 c5 ho1 hb1 HPS
   go_wp2_with fail
   refine (join_2 HP1.out (by repeat (first | exact List.Mem.head _ | refine List.Mem.tail _ ?_)) (by repeat (first | exact List.Mem.head _ | refine List.Mem.tail _ ?_)) HS.out HL.out rfl).mono ?_
   rintro e w2 ⟨v2, rfl, h1, h2⟩
   have HO2 := Lib.hid h1
   have HB2 := Lib.hid h2
   clear h1 h2 HP1
   go_wp2_with fail
   go_roundw
   case rel => exact ⟨j + 1, by omega, by go_num, by rw [HFJ.out]; exact HO2, HB2⟩
   case measure => simp [intOf]; omega
  ·obtain rfl : j = l.length := by omega
   rw [show (l.map V.o).take l.length = l.map V.o from by rw [← List.length_map (f := V.o), List.take_length]] at ho
   go_wp2_with fail
   go_ret
   exact ⟨_, rfl, ho.out, hb.out⟩
theorem refBraces_of (l : List V) (A : Option Addr) (c : Nat) (w : World) (hr : Row w A l) (H : ∀ u ∈ l, TellS u) (hl : l.length ≤ 4194304) (hT : (stmts (l.map V.o)).length ≤ 8796093000000) :
  Gives 96 #[.slice A l.length c] w (block (l.map V.o)) := by
 have HST := Lib.hid fun w' (hb' : Below w.heap.size w w') => refStmtsT_of l A c w' (RowB.below hr hb') H hl hT
 have HT : Hid ([⟨#[123]⟩] ++ (stmts (l.map V.o) ++ [⟨#[125]⟩]) = block (l.map V.o)) := Lib.hid rfl
 have HL : Hid ((block (l.map V.o)).length ≤ 8796093020000) := by
  show _ ≤ _
  unfold block
  simp
  omega
 clear H hr hT hl
 generalize block (l.map V.o) = BT at *
 generalize stmts (l.map V.o) = ST at *
 generalize l.length = n at *
 unfold Gives
 go_enter Tryz.func96, Tryz.ntmps96
 go_wp2_with fail
 have hS0 := PS.start w w (Below.refl _ _)
 refine (one_any _ _).mono ?_
 rintro e w1 ⟨v1, rfl, ho1, hb1⟩
 have HS1 := Lib.hid (hS0.call hb1 ho1)
 obtain ⟨A1, c1, rfl, -, -⟩ := ho1.rd
 clear ho1 hb1 hS0
 go_wp2_with fail
 refine (HST.out _ HS1.out.b).mono ?_
 rintro e w2 ⟨v2, rfl, ho2, hb2⟩
 have HS2 := Lib.hid (HS1.out.call hb2 ho2)
 obtain ⟨A2, c2, rfl, -, -⟩ := ho2.rd
 clear ho2 hb2 HS1
 go_wp2_with fail
 refine (one_any _ _).mono ?_
 rintro e w3 ⟨v3, rfl, ho3, hb3⟩
 have HS3 := Lib.hid (HS2.out.call hb3 ho3)
 obtain ⟨A3, c3, rfl, -, -⟩ := ho3.rd
 clear ho3 hb3 HS2
 go_wp2_with fail
 refine (join_3 HS3.out (by repeat (first | exact List.Mem.head _ | refine List.Mem.tail _ ?_)) (by repeat (first | exact List.Mem.head _ | refine List.Mem.tail _ ?_)) (by repeat (first | exact List.Mem.head _ | refine List.Mem.tail _ ?_)) HT.out HL.out rfl).mono ?_
 rintro e w4 ⟨v4, rfl, h1, h2⟩
 have HO := Lib.hid h1
 have HB := Lib.hid h2
 clear h1 h2 HS3
 go_wp2_with fail
 go_ret
 exact ⟨_, rfl, HO.out, HB.out⟩
theorem rlvl_basic (x : X) (w : World) (h0 : ¬ x.k = 21 ∧ ¬ x.k = 20 ∧ ¬ x.k = 19 ∧ ¬ x.k = 17 ∧ ¬ x.k = 18 ∧ ¬ x.k = 15 ∧ ¬ x.k = 16 ∧ ¬ x.k = 13 ∧ ¬ x.k = 11 ∧ ¬ x.k = 12 ∧ ¬ x.k = 14) :
  Calls Tryz.prog 128 #[x.v] w fun e w' => e = .returned (.int .i64 13) ∧ Below w.heap.size w w' := by
 obtain ⟨k, nm, n, s, ka, kn, kc, la, ln, lc⟩ := x
 simp only [X.v] at *
 have hbe : ∀ m : Int, ¬ k = m → (k == m) = false := fun m hm => by rw [beq_eq_false_iff_ne]; exact hm
 have b21 := hbe 21 (by omega)
 have b20 := hbe 20 (by omega)
 have b19 := hbe 19 (by omega)
 have b17 := hbe 17 (by omega)
 have b18 := hbe 18 (by omega)
 have b15 := hbe 15 (by omega)
 have b16 := hbe 16 (by omega)
 have b13 := hbe 13 (by omega)
 have b11 := hbe 11 (by omega)
 have b12 := hbe 12 (by omega)
 have b14 := hbe 14 (by omega)
 clear hbe h0
 go_enter Tryz.func128, Tryz.ntmps128
 go_wp2_with fail
 go_ret
 exact ⟨rfl, below_alloc w _⟩
theorem rlvl_21 (x : X) (w : World) (h0 : x.k = 21) :
  Calls Tryz.prog 128 #[x.v] w fun e w' => e = .returned (.int .i64 0) ∧ Below w.heap.size w w' := by
 obtain ⟨k, nm, n, s, ka, kn, kc, la, ln, lc⟩ := x
 simp only [X.v] at *
 subst h0
 go_enter Tryz.func128, Tryz.ntmps128
 go_wp2_with fail
 go_ret
 exact ⟨rfl, below_alloc w _⟩
theorem rlvl_20 (x : X) (w : World) (h0 : x.k = 20) :
  Calls Tryz.prog 128 #[x.v] w fun e w' => e = .returned (.int .i64 1) ∧ Below w.heap.size w w' := by
 obtain ⟨k, nm, n, s, ka, kn, kc, la, ln, lc⟩ := x
 simp only [X.v] at *
 subst h0
 go_enter Tryz.func128, Tryz.ntmps128
 go_wp2_with fail
 go_ret
 exact ⟨rfl, below_alloc w _⟩
theorem rlvl_19 (x : X) (w : World) (h0 : x.k = 19) :
  Calls Tryz.prog 128 #[x.v] w fun e w' => e = .returned (.int .i64 2) ∧ Below w.heap.size w w' := by
 obtain ⟨k, nm, n, s, ka, kn, kc, la, ln, lc⟩ := x
 simp only [X.v] at *
 subst h0
 go_enter Tryz.func128, Tryz.ntmps128
 go_wp2_with fail
 go_ret
 exact ⟨rfl, below_alloc w _⟩
theorem rlvl_15 (x : X) (w : World) (h0 : x.k = 15) :
  Calls Tryz.prog 128 #[x.v] w fun e w' => e = .returned (.int .i64 9) ∧ Below w.heap.size w w' := by
 obtain ⟨k, nm, n, s, ka, kn, kc, la, ln, lc⟩ := x
 simp only [X.v] at *
 subst h0
 go_enter Tryz.func128, Tryz.ntmps128
 go_wp2_with fail
 go_ret
 exact ⟨rfl, below_alloc w _⟩
theorem rlvl_13 (x : X) (w : World) (h0 : x.k = 13) :
  Calls Tryz.prog 128 #[x.v] w fun e w' => e = .returned (.int .i64 11) ∧ Below w.heap.size w w' := by
 obtain ⟨k, nm, n, s, ka, kn, kc, la, ln, lc⟩ := x
 simp only [X.v] at *
 subst h0
 go_enter Tryz.func128, Tryz.ntmps128
 go_wp2_with fail
 go_ret
 exact ⟨rfl, below_alloc w _⟩
theorem rlvl_14 (x : X) (w : World) (h0 : x.k = 14) :
  Calls Tryz.prog 128 #[x.v] w fun e w' => e = .returned (.int .i64 12) ∧ Below w.heap.size w w' := by
 obtain ⟨k, nm, n, s, ka, kn, kc, la, ln, lc⟩ := x
 simp only [X.v] at *
 subst h0
 go_enter Tryz.func128, Tryz.ntmps128
 go_wp2_with fail
 go_ret
 exact ⟨rfl, below_alloc w _⟩
theorem rlvl_16p (x : X) (w : World) (h0 : x.k = 16) (h1 : x.n = 1) :
  Calls Tryz.prog 128 #[x.v] w fun e w' => e = .returned (.int .i64 9) ∧ Below w.heap.size w w' := by
 obtain ⟨k, nm, n, s, ka, kn, kc, la, ln, lc⟩ := x
 simp only [X.v] at *
 subst h0 h1
 go_enter Tryz.func128, Tryz.ntmps128
 go_wp2_with fail
 go_ret
 exact ⟨rfl, below_alloc w _⟩
theorem rlvl_16n (x : X) (w : World) (h0 : x.k = 16) (h1 : ¬ x.n = 1) :
  Calls Tryz.prog 128 #[x.v] w fun e w' => e = .returned (.int .i64 10) ∧ Below w.heap.size w w' := by
 obtain ⟨k, nm, n, s, ka, kn, kc, la, ln, lc⟩ := x
 simp only [X.v] at *
 subst h0
 have hb : (n == 1) = false := by rw [beq_eq_false_iff_ne]; exact h1
 clear h1
 go_enter Tryz.func128, Tryz.ntmps128
 go_wp2_with fail
 go_ret
 exact ⟨rfl, below_alloc w _⟩
theorem opl8 {s : ByteArray} (h : opOk 17 (bl s) = true) (h1 : ¬ bl s = [61, 61]) (h2 : ¬ bl s = [33, 61]) (h3 : ¬ bl s = [61, 61, 61]) (h4 : ¬ bl s = [33, 61, 61]) (h5 : ¬ bl s = [60]) (h6 : ¬ bl s = [62]) (h7 : ¬ bl s = [60, 61]) (h8 : ¬ bl s = [62, 61])
  (h9 : ¬ bl s = [105, 110]) (h10 : ¬ bl s = [105, 110, 115, 116, 97, 110, 99, 101, 111, 102]) (h11 : ¬ bl s = [43]) (h12 : ¬ bl s = [45]) : opl (bl s) = 8 := by
 have hm : bl s ∈ biOps := by
  have h' : biOps.contains (bl s) = true := h
  exact List.contains_iff_mem.1 h'
 unfold biOps at hm
 simp only [List.mem_cons, List.not_mem_nil, or_false] at hm
 generalize bl s = t at *
 rcases hm with rfl | rfl | rfl | rfl | rfl | rfl | rfl | rfl | rfl | rfl | rfl | rfl | rfl | rfl | rfl
 all_goals first | rfl | (exfalso; first | exact h1 rfl | exact h2 rfl | exact h3 rfl | exact h4 rfl | exact h5 rfl | exact h6 rfl | exact h7 rfl | exact h8 rfl | exact h9 rfl | exact h10 rfl | exact h11 rfl | exact h12 rfl)
theorem opl4 {s : ByteArray} (h : opOk 18 (bl s) = true) (h1 : ¬ bl s = [124, 124]) : opl (bl s) = 4 := by
 have hm : bl s ∈ loOps := by
  have h' : loOps.contains (bl s) = true := h
  exact List.contains_iff_mem.1 h'
 unfold loOps at hm
 simp only [List.mem_cons, List.not_mem_nil, or_false] at hm
 generalize bl s = t at *
 rcases hm with rfl | rfl
 ·rfl
 ·exact absurd rfl h1
theorem rlvl_17 (x : X) (w : World) (h0 : x.k = 17) (ho : opOk 17 (bl x.nm) = true) :
  Calls Tryz.prog 128 #[x.v] w fun e w' => e = .returned (.int .i64 (opl (bl x.nm) : Nat)) ∧ Below w.heap.size w w' := by
 have HO := Lib.hid ho
 obtain ⟨k, nm, n, s, ka, kn, kc, la, ln, lc⟩ := x
 simp only [X.v] at *
 subst h0
 clear ho
 go_enter Tryz.func128, Tryz.ntmps128
 go_wp2
 all_goals first
  | (exfalso; exact noBoth (by assumption) (by assumption))
  | (go_ret; exact ⟨ret_int (hitO (by assumption) (by decide +kernel)).symm, below_alloc w _⟩)
  | (go_ret; exact ⟨ret_int (by rw [opl8 HO.out (neO (by assumption)) (neO (by assumption)) (neO (by assumption)) (neO (by assumption)) (neO (by assumption)) (neO (by assumption)) (neO (by assumption)) (neO (by assumption)) (neO (by assumption)) (neO (by assumption)) (neO (by assumption)) (neO (by assumption))]; rfl), below_alloc w _⟩)
theorem rlvl_18 (x : X) (w : World) (h0 : x.k = 18) (ho : opOk 18 (bl x.nm) = true) :
  Calls Tryz.prog 128 #[x.v] w fun e w' => e = .returned (.int .i64 (opl (bl x.nm) : Nat)) ∧ Below w.heap.size w w' := by
 have HO := Lib.hid ho
 obtain ⟨k, nm, n, s, ka, kn, kc, la, ln, lc⟩ := x
 simp only [X.v] at *
 subst h0
 clear ho
 go_enter Tryz.func128, Tryz.ntmps128
 go_wp2
 all_goals first
  | (exfalso; exact noBoth (by assumption) (by assumption))
  | (go_ret; exact ⟨ret_int (hitO (by assumption) (by decide +kernel)).symm, below_alloc w _⟩)
  | (go_ret; exact ⟨ret_int (by rw [opl4 HO.out (neO (by assumption))]; rfl), below_alloc w _⟩)
theorem rlvl_11 (x y : X) (g o : Nat) (L : Nat) (w : World) (h0 : x.k = 11) (hl : 0 < x.ln) (hlc : x.ln ≤ x.lc) (hA : x.la = some ⟨g, o, none⟩) (hg : g < w.heap.size) (hy : At w g o y)
  (hc : ∀ w', Below w.heap.size w w' → Calls Tryz.prog 128 #[y.v] w' fun e w'' => e = .returned (.int .i64 (L : Nat)) ∧ Below w'.heap.size w' w'') (hL : L ≤ 13) :
  Calls Tryz.prog 128 #[x.v] w fun e w' => e = .returned (.int .i64 ((if 12 ≤ L then 12 else 11 : Nat) : Int)) ∧ Below w.heap.size w w' := by
 obtain ⟨k, nm, n, s, ka, kn, kc, la, ln, lc⟩ := x
 have hy' := hy.below hg (below_alloc w (.cells #[.int .i64 k, .string nm, .int .i64 n, .string s, .slice ka kn kc, .slice la ln lc] 25))
 obtain ⟨c0, c1, c2, c3, c4, c5⟩ := hy'
 obtain ⟨yk, ynm, yn, ys, yka, ykn, ykc, yla, yln, ylc⟩ := y
 simp only [X.v] at *
 subst h0 hA
 have HC := Lib.hid hc
 have hl' : (0 : Int) < (ln : Int) := by omega
 clear hc hy
 by_cases h12 : 12 ≤ L
 all_goals
  first | rw [if_pos h12] | rw [if_neg h12]
  go_enter Tryz.func128, Tryz.ntmps128
  go_wp2_with fail
  refine (HC.out _ (below_alloc w _)).mono ?_
  rintro e w' ⟨rfl, hb⟩
  have hb2 := (below_alloc w (.cells #[.int .i64 11, .string nm, .int .i64 n, .string s, .slice ka kn kc, .slice (some ⟨g, o, none⟩) ln lc] 25)).trans (hb.mono (by simp))
  clear hb c0 c1 c2 c3 c4 c5
  go_wp2_with fail
  go_ret
  exact ⟨rfl, hb2⟩
theorem rlvl_12 (x y : X) (g o : Nat) (L : Nat) (w : World) (h0 : x.k = 12) (hl : 0 < x.ln) (hlc : x.ln ≤ x.lc) (hA : x.la = some ⟨g, o, none⟩) (hg : g < w.heap.size) (hy : At w g o y)
  (hc : ∀ w', Below w.heap.size w w' → Calls Tryz.prog 128 #[y.v] w' fun e w'' => e = .returned (.int .i64 (L : Nat)) ∧ Below w'.heap.size w' w'') (hL : L ≤ 13) :
  Calls Tryz.prog 128 #[x.v] w fun e w' => e = .returned (.int .i64 ((if 12 ≤ L then 12 else 11 : Nat) : Int)) ∧ Below w.heap.size w w' := by
 obtain ⟨k, nm, n, s, ka, kn, kc, la, ln, lc⟩ := x
 have hy' := hy.below hg (below_alloc w (.cells #[.int .i64 k, .string nm, .int .i64 n, .string s, .slice ka kn kc, .slice la ln lc] 25))
 obtain ⟨c0, c1, c2, c3, c4, c5⟩ := hy'
 obtain ⟨yk, ynm, yn, ys, yka, ykn, ykc, yla, yln, ylc⟩ := y
 simp only [X.v] at *
 subst h0 hA
 have HC := Lib.hid hc
 have hl' : (0 : Int) < (ln : Int) := by omega
 clear hc hy
 by_cases h12 : 12 ≤ L
 all_goals
  first | rw [if_pos h12] | rw [if_neg h12]
  go_enter Tryz.func128, Tryz.ntmps128
  go_wp2_with fail
  refine (HC.out _ (below_alloc w _)).mono ?_
  rintro e w' ⟨rfl, hb⟩
  have hb2 := (below_alloc w (.cells #[.int .i64 12, .string nm, .int .i64 n, .string s, .slice ka kn kc, .slice (some ⟨g, o, none⟩) ln lc] 25)).trans (hb.mono (by simp))
  clear hb c0 c1 c2 c3 c4 c5
  go_wp2_with fail
  go_ret
  exact ⟨rfl, hb2⟩
theorem rlevel_any : ∀ (v : V) (x : X) (w : World), Fine v → isE v = true → Is w v x →
  Calls Tryz.prog 128 #[x.v] w fun e w' => e = .returned (.int .i64 (v.o.lvl : Nat)) ∧ Below w.heap.size w w' := by
 refine V.ind fun k nm n s ks l ih => ?_
 intro x w hf he h
 have hk := isE_k he
 have hxo := h.open
 obtain ⟨ka, kc, la, lc, rfl, h1, h2, h3, h4⟩ := hxo
 have hkid := hf.kids
 have hsub := fun u (hu : u ∈ l) => hf.kid (v := .mk k nm n s ks l) hu
 rw [o_lvl]
 simp only [V.k, V.nm, V.n, V.s, V.ks, V.l] at *
 rcases k_ways hk with h0 | h0 | h0 | h0 | h0 | h0 | h0 | h0 | h0 | h0 | h0 | h0
 ·unfold lvlN
  rw [if_neg h0.1, if_neg h0.2.1, if_neg h0.2.2.1, if_neg (by omega), if_neg (by omega), if_neg (by omega), if_neg (by omega), if_neg (by omega), if_neg (by omega)]
  exact rlvl_basic _ w h0
 all_goals subst h0
 ·exact rlvl_21 _ w rfl
 ·exact rlvl_20 _ w rfl
 ·exact rlvl_19 _ w rfl
 ·exact rlvl_17 _ w rfl (by have h := hf.nm; rw [nm_17 rfl] at h; exact h)
 ·exact rlvl_18 _ w rfl (by have h := hf.nm; rw [nm_18 rfl] at h; exact h)
 ·exact rlvl_15 _ w rfl
 ·unfold lvlN
  rw [if_neg (by omega), if_neg (by omega), if_neg (by omega), if_neg (by omega), if_neg (by omega), if_pos rfl]
  by_cases hn : n = 1
  ·rw [if_pos hn]; exact rlvl_16p _ w rfl hn
  ·rw [if_neg hn]; exact rlvl_16n _ w rfl hn
 ·exact rlvl_13 _ w rfl
 all_goals try exact rlvl_14 _ w rfl
 ·unfold kids at hkid
  rw [if_neg (by simp [V.k]), if_neg (by simp [V.k]), if_neg (by simp [V.k]), if_neg (by simp [V.k]), if_pos (by simp [V.k])] at hkid
  obtain ⟨a, hl, ha⟩ := are1.1 hkid
  simp only [V.l] at hl
  subst hl
  obtain ⟨g, o, rfl, hg, y, hy, hv⟩ := h4.at_ (i := 0) (by simp)
  exact rlvl_11 _ y g o _ w rfl (by simp) h2 rfl hg (by simpa using hy) (fun w' hb => ih a (by simp) y w' (hsub a (by simp)) ha (Is.below hb _ _ hv)) (lvl_le a)
 ·unfold kids at hkid
  rw [if_neg (by simp [V.k]), if_neg (by simp [V.k]), if_neg (by simp [V.k]), if_neg (by simp [V.k]), if_neg (by simp [V.k]), if_pos (by simp [V.k])] at hkid
  obtain ⟨a, b, hl, ha, hb⟩ := are2.1 hkid
  simp only [V.l] at hl
  subst hl
  obtain ⟨g, o, rfl, hg, y, hy, hv⟩ := h4.at_ (i := 0) (by simp)
  exact rlvl_12 _ y g o _ w rfl (by simp) h2 rfl hg (by simpa using hy) (fun w' hb => ih a (by simp) y w' (hsub a (by simp)) ha (Is.below hb _ _ hv)) (lvl_le a)
theorem dec_one {u : Nat} (h : u < 10) : Lib.decDigits u = [UInt8.ofNat (48 + u)] := by
 rw [Lib.decDigits, dif_pos h]
theorem dec_more {u : Nat} (h : ¬ u < 10) : Lib.decDigits u = Lib.decDigits (u / 10) ++ [UInt8.ofNat (48 + u % 10)] := by
 rw [Lib.decDigits, dif_neg h]
theorem digits_low (u : Nat) (w : World) (h10 : u < 10) :
  Calls Tryz.prog 146 #[.int .i64 (u : Int)] w fun e w' => e = .returned (.string ⟨(Lib.decDigits u).toArray⟩) ∧ Below w.heap.size w w' := by
 have HE := Lib.hid (dec_one h10)
 have hcv := conv_new w [UInt8.ofNat (48 + u)] #[.int .u8 (48 + (u : Int) % 10)] 1 (by simp [bv]; omega) rfl
 have hi : (u : Int) < 10 := by omega
 have HBA := Lib.hid (below_alloc' w (.cells #[.int .u8 (48 + (u : Int) % 10)] 5))
 clear h10
 generalize UInt8.ofNat (48 + u) = c at *
 go_enter Tryz.func146, Tryz.ntmps146
 go_wp2_with fail
 go_ret
 exact ⟨by rw [HE.out]; rfl, HBA.out⟩
theorem digits_any : ∀ (f u : Nat) (w : World), u ≤ f → u < 9223372036854775808 →
  Calls Tryz.prog 146 #[.int .i64 (u : Int)] w fun e w' => e = .returned (.string ⟨(Lib.decDigits u).toArray⟩) ∧ Below w.heap.size w w' := by
 intro f
 induction f with
 | zero =>
  intro u w hf hu
  exact digits_low u w (by omega)
 | succ f ih =>
  intro u w hf hu
  by_cases h10 : u < 10
  ·exact digits_low u w h10
  ·have HE := Lib.hid (dec_more h10)
   have HI := Lib.hid fun w' => ih (u / 10) w' (by omega) (by omega)
   have hlen := dec_len (u / 10) (by omega)
   have hcv := conv_new w [UInt8.ofNat (48 + u % 10)] #[.int .u8 (48 + (u : Int) % 10)] 1 (by simp [bv]; omega) rfl
   have hi : (10 : Int) ≤ (u : Int) := by omega
   have hu2 : (u : Int) ≤ 9223372036854775807 := by omega
   have HBA := Lib.hid (below_alloc' w (.cells #[.int .u8 (48 + (u : Int) % 10)] 5))
   have HQ : Hid ((u : Int) / 10 = ((u / 10 : Nat) : Int)) := Lib.hid (by omega)
   clear hf hu ih h10
   generalize UInt8.ofNat (48 + u % 10) = c at *
   generalize Lib.decDigits (u / 10) = dl at *
   have HX := Lib.hid (mk_append dl [c])
   have hls : dl.length + 1 ≤ 9223372036854775807 := by omega
   have hcd : ((u : Int) < 10) = False := by rw [eq_iff_iff, iff_false]; omega
   go_enter Tryz.func146, Tryz.ntmps146
   go_wp2_with fail
   rw [HQ.out]
   refine (HI.out _).mono ?_
   rintro e w1 ⟨rfl, hb1⟩
   have HB1 := Lib.hid (HBA.out.trans (hb1.mono HBA.out.size))
   clear hb1
   go_wp2_with fail
   go_ret
   exact ⟨by rw [HE.out, ← HX.out]; rfl, HB1.out⟩
theorem len_small {T : Ts} {n : Nat} (h : Ps.tl T + 8 ≤ 64 * n ∨ Ps.tl T + 4 ≤ 64 * n) (hn : n ≤ 4194304) : T.length ≤ 8796093000000 := by
 have := Ps.tl_len T
 omega
theorem raw_len {v : V} (hf : Fine v) (no : Bool) : (v.o.raw no).length ≤ 8796093000000 := len_small (.inl ((Ps.le_all v hf.1).raw no)) hf.2
theorem st_len {v : V} (hf : Fine v) : v.o.st.length ≤ 8796093000000 := len_small (.inl (Ps.le_all v hf.1).st) hf.2
theorem at_len {v : V} (hf : Fine v) (m : Nat) (no : Bool) : (v.o.at m no).length ≤ 8796093000000 := len_small (.inr ((Ps.le_all v hf.1).at_ m no)) hf.2
theorem at_of (v : V) (hf : Fine v) (he : isE v = true) (HR : TellR v) : TellA v := by
 intro m i no x w hi hm hx
 have HLV := Lib.hid fun w' (h : Below w.heap.size w w') => rlevel_any v x w' hf he (Is.below h _ _ hx)
 have HRR := Lib.hid fun no w' (h : Below w.heap.size w w') => HR no x w' (Is.below h _ _ hx)
 have hL := lvl_le v
 have HLEN : Hid ((v.o.at m no).length ≤ 8796093020000) := Lib.hid (by have := at_len hf m no; omega)
 obtain ⟨xka, xkc, xla, xlc, rfl, -, -, -, -⟩ := hx.open
 obtain ⟨W0, hW0, HB0, HF⟩ := box_new w v.k v.nm v.n v.s xka v.ks.length xkc xla v.l.length xlc
 have HW0 := Lib.hid hW0
 have HIN := Lib.hid (fun h => at_in (v := v) (m := m) (b := no) h)
 have HOUT := Lib.hid (fun h => at_out (v := v) (m := m) (b := no) h)
 simp only [X.v] at HLV HRR ⊢
 clear hx hf hW0 HR he
 generalize v.o.lvl = L at *
 generalize v.o.at m no = T at *
 obtain ⟨rw_, hrw⟩ : ∃ r, v.o.raw = r := ⟨_, rfl⟩
 rw [hrw] at HRR HIN HOUT
 clear hrw
 generalize v.k = k, v.nm = nm, v.n = n, v.s = s, v.ks.length = kn, v.l.length = ln at *
 subst hi
 go_enter Tryz.func99, Tryz.ntmps99
 go_wp2_with fail
 rw [HW0.out]
 clear HW0
 refine (HLV.out _ HB0.out).mono ?_
 rintro e w1 ⟨rfl, hb1⟩
 have HC1 := Lib.hid hb1
 have HB1 := Lib.hid (HB0.out.trans (hb1.mono HB0.out.size))
 obtain ⟨i0, i1, i2, i3, i4, i5⟩ := (HF.out _ hb1).six
 clear hb1
 by_cases h1 : L < m
 ·have h1i : (L : Int) < (m : Int) := by omega
  have HT : Hid ([⟨#[40]⟩] ++ (rw_ false ++ [⟨#[41]⟩]) = T) := by
   show _ = _
   rw [HIN.out (.inl h1)]
   rfl
  clear HIN HOUT h1
  go_wp2_with fail
  have hS : PS W0 [] w1.drew := (PS.start W0 w1 HC1.out).drew
  go_region_held3 (fun w' => w'.cell? ⟨w.heap.size, 0, none⟩ = some (.int .i64 k) ∧ w'.cell? ⟨w.heap.size, 0 + 1, none⟩ = some (.string nm) ∧ w'.cell? ⟨w.heap.size, 0 + 2, none⟩ = some (.int .i64 n) ∧ w'.cell? ⟨w.heap.size, 0 + 3, none⟩ = some (.string s) ∧ w'.cell? ⟨w.heap.size, 0 + 4, none⟩ = some (.slice xka kn xkc) ∧ w'.cell? ⟨w.heap.size, 0 + 5, none⟩ = some (.slice xla ln xlc)) (with_reducible first | exact (HF.out _ hS.b).six | exact (HF.out _ (hS.bal _)).six)
   ((first
    | (go_at_call 94; (with_reducible refine (one_any _ _).mono ?_); rintro e w2 ⟨v2, rfl, ho, hb⟩; obtain ⟨A2, c2, rfl, -, -⟩ := ho.rd; replace hS := hS.call hb ho; clear ho hb)
    | (go_at_call 129; (with_reducible refine (HRR.out _ _ ?cz).mono ?_); (case cz => exact HB0.out.trans (hS.b.mono HB0.out.size)); rintro e w2 ⟨v2, rfl, ho, hb⟩; obtain ⟨A2, c2, rfl, -, -⟩ := ho.rd; replace hS := hS.call hb ho; clear ho hb)
    | (go_at_call 48; (refine (join_3 hS ?c1 ?c2 ?c3 HT.out HLEN.out ?cg).mono ?_); (case cg => first | rfl | simp); (case c1 => repeat (first | exact List.Mem.head _ | refine List.Mem.tail _ ?_)); (case c2 => repeat (first | exact List.Mem.head _ | refine List.Mem.tail _ ?_)); (case c3 => repeat (first | exact List.Mem.head _ | refine List.Mem.tail _ ?_)); rintro e w2 ⟨v2, rfl, ho, hb⟩; obtain ⟨A2, c2, rfl, -, -⟩ := ho.rd; replace hS := PS.start _ _ hb)))
  clear hS
  have HO := Lib.hid (ho.mono HB0.out.size)
  have HB := Lib.hid (HB0.out.trans (hb.mono HB0.out.size))
  clear ho hb i0 i1 i2 i3 i4 i5
  go_wp2_with fail
  go_ret
  exact ⟨_, rfl, HO.out, HB.out⟩
 have h1i : (m : Int) ≤ (L : Int) := by omega
 by_cases h2 : no = true ∧ k = 17 ∧ bl nm = [105, 110]
 ·obtain ⟨rfl, rfl, hnm⟩ := h2
  have HT : Hid ([⟨#[40]⟩] ++ (rw_ false ++ [⟨#[41]⟩]) = T) := by
   show _ = _
   rw [HIN.out (.inr ⟨rfl, rfl, hnm⟩)]
   rfl
  obtain rfl := of_bl hnm
  clear HIN HOUT h1 hnm
  go_wp2_with fail
  have hS : PS W0 [] w1.drew := (PS.start W0 w1 HC1.out).drew
  go_region_held3 (fun w' => w'.cell? ⟨w.heap.size, 0, none⟩ = some (.int .i64 17) ∧ w'.cell? ⟨w.heap.size, 0 + 1, none⟩ = some (.string ⟨#[105, 110]⟩) ∧ w'.cell? ⟨w.heap.size, 0 + 2, none⟩ = some (.int .i64 n) ∧ w'.cell? ⟨w.heap.size, 0 + 3, none⟩ = some (.string s) ∧ w'.cell? ⟨w.heap.size, 0 + 4, none⟩ = some (.slice xka kn xkc) ∧ w'.cell? ⟨w.heap.size, 0 + 5, none⟩ = some (.slice xla ln xlc)) (with_reducible first | exact (HF.out _ hS.b).six | exact (HF.out _ (hS.bal _)).six)
   ((first
    | (go_at_call 94; (with_reducible refine (one_any _ _).mono ?_); rintro e w2 ⟨v2, rfl, ho, hb⟩; obtain ⟨A2, c2, rfl, -, -⟩ := ho.rd; replace hS := hS.call hb ho; clear ho hb)
    | (go_at_call 129; (with_reducible refine (HRR.out _ _ ?cz).mono ?_); (case cz => exact HB0.out.trans (hS.b.mono HB0.out.size)); rintro e w2 ⟨v2, rfl, ho, hb⟩; obtain ⟨A2, c2, rfl, -, -⟩ := ho.rd; replace hS := hS.call hb ho; clear ho hb)
    | (go_at_call 48; (refine (join_3 hS ?c1 ?c2 ?c3 HT.out HLEN.out ?cg).mono ?_); (case cg => first | rfl | simp); (case c1 => repeat (first | exact List.Mem.head _ | refine List.Mem.tail _ ?_)); (case c2 => repeat (first | exact List.Mem.head _ | refine List.Mem.tail _ ?_)); (case c3 => repeat (first | exact List.Mem.head _ | refine List.Mem.tail _ ?_)); rintro e w2 ⟨v2, rfl, ho, hb⟩; obtain ⟨A2, c2, rfl, -, -⟩ := ho.rd; replace hS := PS.start _ _ hb)))
  clear hS
  have HO := Lib.hid (ho.mono HB0.out.size)
  have HB := Lib.hid (HB0.out.trans (hb.mono HB0.out.size))
  clear ho hb i0 i1 i2 i3 i4 i5
  go_wp2_with fail
  go_ret
  exact ⟨_, rfl, HO.out, HB.out⟩
 have HR2 : Hid (rw_ no = T) := by
  show _ = _
  exact (HOUT.out (fun h => h.elim h1 h2)).symm
 clear HIN HOUT h1
 cases no
 ·clear h2
  go_wp2_with fail
  refine (HRR.out _ _ HB1.out).mono ?_
  rintro e w2 ⟨v2, rfl, ho, hb⟩
  obtain ⟨A2, c2, rfl, -, -⟩ := ho.rd
  have HO := Lib.hid (ho.mono HB1.out.size)
  have HB := Lib.hid (HB1.out.trans (hb.mono HB1.out.size))
  clear ho hb i0 i1 i2 i3 i4 i5
  go_wp2_with fail
  go_ret
  exact ⟨_, rfl, by rw [← HR2.out]; exact HO.out, HB.out⟩
 by_cases h3 : k = 17
 ·have hnm : (nm.toList == [105, 110]) = false := by
   rw [beq_eq_false_iff_ne]
   intro e
   exact h2 ⟨rfl, h3, by rw [← e]; exact (Lib.toList_data nm).symm⟩
  subst h3
  clear h2
  go_wp2_with fail
  refine (HRR.out _ _ HB1.out).mono ?_
  rintro e w2 ⟨v2, rfl, ho, hb⟩
  obtain ⟨A2, c2, rfl, -, -⟩ := ho.rd
  have HO := Lib.hid (ho.mono HB1.out.size)
  have HB := Lib.hid (HB1.out.trans (hb.mono HB1.out.size))
  clear ho hb i0 i1 i2 i3 i4 i5
  go_wp2_with fail
  go_ret
  exact ⟨_, rfl, by rw [← HR2.out]; exact HO.out, HB.out⟩
 have hkq : (k == 17) = false := by rw [beq_eq_false_iff_ne]; exact h3
 clear h2 h3
 go_wp2_with fail
 refine (HRR.out _ _ HB1.out).mono ?_
 rintro e w2 ⟨v2, rfl, ho, hb⟩
 obtain ⟨A2, c2, rfl, -, -⟩ := ho.rd
 have HO := Lib.hid (ho.mono HB1.out.size)
 have HB := Lib.hid (HB1.out.trans (hb.mono HB1.out.size))
 clear ho hb i0 i1 i2 i3 i4 i5
 go_wp2_with fail
 go_ret
 exact ⟨_, rfl, by rw [← HR2.out]; exact HO.out, HB.out⟩
end Go.Proofs.YtllpgoaanbiodaaGreatDoor.R
