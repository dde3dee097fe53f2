/-

-/
import Derived.Test.YtllpgoaanbiodaaGreatDoorMM
import Derived.Test.YtllpgoaanbiodaaGreatDoorMO
import Derived.Deep.AppendLies
namespace Go.Proofs.YtllpgoaanbiodaaGreatDoor.R
open Go.RowKit Go.Proofs.YtllpgoaanbiodaaGreatDoor Go.Proofs.YtllpgoaanbiodaaGreatDoor.T
structure Fr (F : Nat → Prop) (w w' : World) : Prop where
 os : w'.os = w.os
 tape : w'.tape = w.tape
 output : w'.output = w.output
 size : w.heap.size ≤ w'.heap.size
 block : ∀ k, F k → w'.heap[k]? = w.heap[k]?
theorem Fr.refl (F : Nat → Prop) (w : World) : Fr F w w := ⟨rfl, rfl, rfl, Nat.le_refl _, fun _ _ => rfl⟩
theorem Fr.trans {F : Nat → Prop} {a b c : World} (h : Fr F a b) (k : Fr F b c) : Fr F a c :=
 ⟨k.os.trans h.os, k.tape.trans h.tape, k.output.trans h.output, Nat.le_trans h.size k.size, fun i hi => (k.block i hi).trans (h.block i hi)⟩
theorem Fr.mono {F F' : Nat → Prop} {a b : World} (h : Fr F a b) (hF : ∀ k, F' k → F k) : Fr F' a b := ⟨h.os, h.tape, h.output, h.size, fun k hk => h.block k (hF k hk)⟩
theorem Fr.below {B : Nat} {w w' : World} (h : Fr (· < B) w w') : Below B w w' := ⟨h.os, h.tape, h.output, h.size, h.block⟩
theorem Fr.of {B : Nat} {w w' : World} (h : Below B w w') {F : Nat → Prop} (hF : ∀ k, F k → k < B) : Fr F w w' := ⟨h.os, h.tape, h.output, h.size, fun k hk => h.block k (hF k hk)⟩
theorem Fr.alloc {F : Nat → Prop} {a w : World} (h : Fr F a w) (hF : ∀ k, F k → k < a.heap.size) (o : Obj) : Fr F a (w.alloc o) :=
 h.trans ⟨rfl, rfl, rfl, by simp, fun k hk => Below.heap_alloc _ _ _ (Nat.lt_of_lt_of_le (hF k hk) h.size)⟩
theorem Fr.setCell {F : Nat → Prop} {a w : World} (h : Fr F a w) {p : Addr} (hp : ¬ F p.block) (u : Value) : Fr F a (w.setCell p u) :=
 h.trans ⟨rfl, rfl, rfl, by simp [World.setCell], fun k hk => Below.heap_setCell _ _ _ _ (by rintro rfl; exact hp hk)⟩
theorem Fr.drew {F : Nat → Prop} {a w : World} (h : Fr F a w) : Fr F a w.drew := ⟨h.os, h.tape, h.output, h.size, h.block⟩
theorem Fr.grown {F : Nat → Prop} {a w w' : World} {row : Option Nat} (h : Fr F a w) (hF : ∀ k, F k → k < a.heap.size) (hg : w.grownBy w' row) (hr : ∀ k, row = some k → ¬ F k) : Fr F a w' :=
 h.trans ⟨hg.os, hg.tape, hg.output, hg.size, fun k hk => hg.block k (Nat.lt_of_lt_of_le (hF k hk) h.size) (fun e => hr k e.symm hk)⟩
theorem Fr.cell {F : Nat → Prop} {w w' : World} (h : Fr F w w') {p : Addr} (hp : F p.block) : w'.cell? p = w.cell? p := World.cell?_of_block (w := w) (h.block p.block hp)
theorem infoStr : (Tryz.prog.info? 9).map (fun i => (i.zero, i.size, i.bytes)) = some (some (.string ⟨#[]⟩), 1, 16) := by kernel_rfl
theorem add_lit (g o j : Nat) : (⟨g, o, none⟩ : Addr).add j = ⟨g, o + j, none⟩ := by unfold Addr.add; split <;> simp_all
theorem own_push {w w' : World} {B : Nat} {e : TypeId} {s n : Nat} {v : Value} {xs : List Value} (h : w.ownsRow B e s v n xs) (hb : ∀ k, v.ownBlock = some k → w'.heap[k]? = w.heap[k]?) : w'.ownsRow B e s v n xs := by
 refine ⟨h.1, ?_⟩
 rcases h.2 with h2 | ⟨g, cap, cur, rfl, hb', hg, r⟩
 ·exact .inl h2
 ·exact .inr ⟨g, cap, cur, rfl, hb', by rw [hb g rfl]; exact hg, r⟩
abbrev vals (T : Ts) : List Value := T.map Value.string
structure Wr (w : World) (F : Nat → Prop) (B : Nat) (T : Ts) (b : Bool) (v : Value) : Prop where
 c0 : w.cell? ⟨B, 0, none⟩ = some v
 c1 : w.cell? ⟨B, 1, none⟩ = some (.bool b)
 f0 : w.frozen? ⟨B, 0, none⟩ = false
 f1 : w.frozen? ⟨B, 1, none⟩ = false
 lt : B < w.heap.size
 nF : ¬ F B
 own : w.ownsRow 0 9 1 v T.length (vals T)
 away : ∀ k, v.ownBlock = some k → k ≠ B ∧ ¬ F k
theorem Wr.blt {w : World} {F : Nat → Prop} {B : Nat} {T : Ts} {b : Bool} {v : Value} (h : Wr w F B T b v) {k : Nat} (hk : v.ownBlock = some k) : k < w.heap.size := (h.own.lt k hk).2
theorem Wr.form {w : World} {F : Nat → Prop} {B : Nat} {T : Ts} {b : Bool} {v : Value} (h : Wr w F B T b v) : ∃ A c, v = .slice A T.length c ∧ T.length ≤ c ∧ (T = [] ∨ ∃ g, A = some ⟨g, 0, none⟩) := by
 rcases h.own.2 with ⟨rfl, h0⟩ | ⟨g, cap, cur, rfl, hb, hg, hc, _⟩
 ·rw [h0]; exact ⟨_, _, rfl, Nat.le_refl _, .inl (List.eq_nil_of_length_eq_zero h0)⟩
 ·exact ⟨_, _, rfl, hc, .inr ⟨g, rfl⟩⟩
theorem Wr.keep {w w' : World} {F : Nat → Prop} {B : Nat} {T : Ts} {b : Bool} {v : Value} (h : Wr w F B T b v) (hs : w.heap.size ≤ w'.heap.size) (hb : w'.heap[B]? = w.heap[B]?) (ho : ∀ k, v.ownBlock = some k → w'.heap[k]? = w.heap[k]?) : Wr w' F B T b v :=
 ⟨(World.cell?_of_block hb).trans h.c0, (World.cell?_of_block hb).trans h.c1, (World.frozen?_of_block hb).trans h.f0, (World.frozen?_of_block hb).trans h.f1, Nat.lt_of_lt_of_le h.lt hs, h.nF, own_push h.own ho, h.away⟩
theorem Wr.below {w w' : World} {F : Nat → Prop} {B : Nat} {T : Ts} {b : Bool} {v : Value} (h : Wr w F B T b v) (hb : Below w.heap.size w w') : Wr w' F B T b v :=
 h.keep hb.size (hb.block _ h.lt) fun _ hk => hb.block _ (h.blt hk)
theorem Wr.more {w w' : World} {F F' : Nat → Prop} {B : Nat} {T : Ts} {b : Bool} {v : Value} (h : Wr w F B T b v) (hb : Below w.heap.size w w') (hF : ∀ k, F' k → F k ∨ w.heap.size ≤ k) : Wr w' F' B T b v := by
 have h2 := h.below hb
 refine ⟨h2.c0, h2.c1, h2.f0, h2.f1, h2.lt, fun hk => ?_, h2.own, fun k hk => ⟨(h2.away k hk).1, fun hk' => ?_⟩⟩
 ·rcases hF _ hk with hk | hk
  ·exact h.nF hk
  ·exact absurd h.lt (Nat.not_lt.2 hk)
 ·rcases hF _ hk' with h3 | h3
  ·exact (h2.away k hk).2 h3
  ·exact absurd (h.blt hk) (Nat.not_lt.2 h3)
theorem Wr.less {w : World} {F F' : Nat → Prop} {B : Nat} {T : Ts} {b : Bool} {v : Value} (h : Wr w F B T b v) (hF : ∀ k, F' k → F k) : Wr w F' B T b v :=
 ⟨h.c0, h.c1, h.f0, h.f1, h.lt, fun hk => h.nF (hF _ hk), h.own, fun k hk => ⟨(h.away k hk).1, fun hk' => (h.away k hk).2 (hF _ hk')⟩⟩
theorem Wr.flag {w : World} {F : Nat → Prop} {B : Nat} {T : Ts} {b : Bool} {v : Value} (h : Wr w F B T b v) (c : Bool) : Wr (w.setCell ⟨B, 1, none⟩ (.bool c)) F B T c v :=
 ⟨by rw [World.cell?_setCell_other _ _ _ _ (by simp)]; exact h.c0, World.cell?_setCell_same _ _ _ h.c1, by simp [h.f0], by simp [h.f1], by simpa [World.setCell] using h.lt, h.nF,
  own_push h.own fun k hk => Below.heap_setCell _ _ _ _ (h.away k hk).1, h.away⟩
def Adds (w : World) (F : Nat → Prop) (B : Nat) (T : Ts) (b : Bool) (e : Ending) (w' : World) : Prop := e = .returned (.tuple #[]) ∧ (∃ v, Wr w' F B T b v) ∧ Fr F w w'
end Go.Proofs.YtllpgoaanbiodaaGreatDoor.R
