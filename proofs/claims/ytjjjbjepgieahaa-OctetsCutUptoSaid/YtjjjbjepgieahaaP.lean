/-
  The package's Unframe, by contract.
-/
import Derived.Test.YtjjjbjepgieahaaO
import Derived.Deep.DeepCutAuto
namespace Go.Proofs.Ytjjjbjepgieahaa
open Go.RowKit

theorem quiet_l {P : Program} {f : FuncId} {args : Array Value} {w : World} {n : Nat} {v : Value}
    (h : Calls P f args (w.drewN n) fun e w' => e = .returned v ∧ w.drewN n = w') : Calls P f args (w.drewN n) fun e w'' => e = .returned v ∧ ∃ m, w'' = w.drewN m :=
  h.mono fun _ _ ⟨he, hm⟩ => ⟨he, n, hm.symm⟩
/-- what a call that answers a frame's bytes leaves -/
def GivesU (w : World) (r : Bs × Nat × Nat) (e : Ending) (w' : World) : Prop :=
  ∃ v, e = .returned (.tuple #[v, .int .i64 r.2.1, .int .i64 r.2.2]) ∧ w'.ownsRow w.heap.size 5 1 v r.1.length (r.1.map bv) ∧ Below w.heap.size w w'
theorem gives_none {w w' : World} {e : Nat} {r : Bs × Nat × Nat} {x : Ending} (hr : r = ([], 0, e)) (hx : x = .returned (.tuple #[.slice none 0 0, .int .i64 0, .int .i64 e])) (hb : Below w.heap.size w w') : GivesU w r x w' := by
  subst hr
  exact ⟨_, hx, World.ownsRow_nil _ _ _ _, hb⟩
theorem unfr_short {l : Bs} {most : Int} (h : l.length < 8) : unfr l most = ([], 0, 20) := by
  unfold unfr
  rw [if_pos h]
theorem unfr_first {l : Bs} {most : Int} (h : ¬ l.length < 8) (he : (first (l.drop 8) (word l) most).2 ≠ 0) : unfr l most = ([], 0, (first (l.drop 8) (word l) most).2) := by
  unfold unfr
  rw [if_neg h, if_pos he]
theorem unfr_sum {l : Bs} {most : Int} (h : ¬ l.length < 8) (he : ¬ (first (l.drop 8) (word l) most).2 ≠ 0) (hs : word (l.drop 4) ≠ sum (l.take 4 ++ (l.drop 8).take (word l))) : unfr l most = ([], 0, 21) := by
  unfold unfr
  rw [if_neg h, if_neg he, if_pos hs]
theorem unfr_ok {l : Bs} {most : Int} (h : ¬ l.length < 8) (he : ¬ (first (l.drop 8) (word l) most).2 ≠ 0) (hs : ¬ word (l.drop 4) ≠ sum (l.take 4 ++ (l.drop 8).take (word l))) : unfr l most = ((l.drop 8).take (word l), 8 + word l, 0) := by
  unfold unfr
  rw [if_neg h, if_neg he, if_neg hs]
theorem wrap_word (l : Bs) : IntKind.u64.wrap (word l : Nat) = (word l : Int) := by
  have := word_lt l
  rw [IntKind.wrap_u64]
  omega

set_option maxRecDepth 4000 in
set_option maxHeartbeats 400000 in
theorem unframe_bad (A : Option Addr) (l : Bs) (c : Nat) (most : Int) (w : World) (h : Byt w A l) (hl : l.length ≤ 9223372036854775807) (hlc : l.length ≤ c) (hm : most ≤ 9223372036854775807)
    (h8 : ¬ l.length < 8) (hf : (first (l.drop 8) (word l) most).2 ≠ 0) :
    Calls Try.prog 21 #[.slice A l.length c, .int .i64 most] w (GivesU w (unfr l most)) := by
  have HR := Lib.hid (unfr_first h8 hf)
  have HW : Hid (∀ W : World, Byt W A l → Calls Try.prog 30 #[.slice A l.length c] W fun e w' => e = .returned (.int .u32 (word l : Nat)) ∧ W = w') := fun W h => word_any A l c W h (by omega) hlc
  have hww := wrap_word l
  have HE := first_err hf
  have h88 : 8 ≤ l.length := by omega
  have hld : (l.drop 8).length = l.length - 8 := List.length_drop ..
  have HF : Hid (∀ A' (W : World), Calls Try.prog 27 #[.slice A' (l.length - 8) (c - 8), .int .u64 (word l : Nat), .int .i64 most] W fun e w' => e = .returned (.tuple #[.slice none 0 0, .int .i64 (first (l.drop 8) (word l) most).2]) ∧ W = w') := fun A' W => by
    have := first_bad A' (l.drop 8) (c - 8) (word l) most W (by omega) hm hf
    rw [hld] at this
    exact this
  have HY : Hid (∀ n, Byt (w.drewN n) A l) := fun n => h.below (below_drewN _ _ _)
  generalize (first (l.drop 8) (word l) most).2 = e2 at *
  generalize word l = wl at *
  have hA : ∃ g o, A = some ⟨g, o, none⟩ := by
    obtain ⟨g, o, hA, _⟩ := h.at_ (show 0 < l.length by omega)
    exact ⟨g, o, hA⟩
  obtain ⟨g, o, rfl⟩ := hA
  clear hf h8 h hld
  by_cases hc8 : c = 8
  · subst hc8
    have hl8 : l.length - 8 = 0 := by omega
    simp only [Nat.sub_self, hl8] at HF
    clear hl8
    go_enter Try.func21, Try.ntmps21
    go_wp2
    go_quiet ((first
      | (go_at_call 30; exact quiet_l (HW.out _ (HY.out _)))
      | (go_at_call 27; exact quiet_l (HF.out _ _))))
    rcases HE with rfl | rfl
    all_goals
      go_wp2
      go_ret3
      exact gives_none HR.out rfl (below_drewN _ _ _)
  · go_enter Try.func21, Try.ntmps21
    go_wp2
    go_quiet ((first
      | (go_at_call 30; exact quiet_l (HW.out _ (HY.out _)))
      | (go_at_call 27; exact quiet_l (HF.out _ _))))
    rcases HE with rfl | rfl
    all_goals
      go_wp2
      go_ret3
      exact gives_none HR.out rfl (below_drewN _ _ _)
end Go.Proofs.Ytjjjbjepgieahaa
