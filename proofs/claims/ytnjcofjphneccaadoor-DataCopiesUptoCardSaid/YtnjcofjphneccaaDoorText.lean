/-
  Text, by contract.
-/
import Derived.Test.YtnjcofjphneccaaDoorAtt
import Derived.Test.YtnjcofjphneccaaDoorChk
namespace Go.Proofs.YtnjcofjphneccaaDoor
open Go.RowKit

/-- what Text answers -/
def V.out (v : V) : Bs := if v.chk = 0 then v.tx else []
theorem chk_may {v : V} (h : v.chk = 0) : v.may = true := by
  unfold V.chk at h
  cases hm : v.may
  · rw [hm] at h; simp at h
  · rfl

set_option maxRecDepth 4000 in
set_option maxHeartbeats 1000000 in
theorem text_any (v : V) (x : X) (w : World) (h : Is w v x) (hbk : v.bulk ≤ 4194304) (hT : Tab w) :
    Calls Tryd.prog 19 #[x.v] w fun e w' => e = .returned (.tuple #[.string ⟨v.out.toArray⟩, .int .i64 v.chk]) ∧ Below w.heap.size w w' := by
  have HC := Lib.hid fun w' (hb : Below w.heap.size w w') => chk_any v x w' (Is.below hb _ _ h) hbk
  have HA : Hid (v.may = true → ∀ w', Below w.heap.size w w' → Calls Tryd.prog 35 #[.slice none 0 0, x.v] w' (App w' (fun k => k < w'.heap.size) ([] ++ v.tx))) := fun hm w' hb =>
    atH_all v (fun k => k < w'.heap.size) w'.heap.size _ [] x w' (fun _ h => h) (fun _ h => h) (Nat.le_refl _) (Own.nil _ _) (Is.below hb _ _ h) (hT.below hb) (hT.below hb).lt hm hbk (by simp; omega)
  have HO : Hid (v.out = if v.chk = 0 then v.tx else []) := Lib.hid rfl
  have HM : Hid (v.chk = 0 → v.may = true) := chk_may
  obtain ⟨k, n, s, ka, kn, kc, la, ln, lc⟩ := x
  simp only [X.v] at *
  generalize v.chk = c at *
  clear h hT hbk
  by_cases h0 : c = 0
  · subst h0
    have HA2 := Lib.hid (HA.out (HM.out rfl))
    rw [HO.out, if_pos rfl]
    clear HA HM HO
    go_enter Tryd.func19, Tryd.ntmps19
    go_wp2_with fail
    refine (HC.out _ (below_alloc w _)).mono ?_
    rintro e w1 ⟨rfl, hb1⟩
    have hb0 := (below_alloc w (.cells #[.int .i64 k, .int .i64 n, .string s, .slice ka kn kc, .slice la ln lc] 25)).trans (hb1.mono (by simp))
    have c0 : w1.cell? ⟨w.heap.size, 0, none⟩ = some (.int .i64 k) := (hb1.cell (p := ⟨w.heap.size, 0, none⟩) (by simp)).trans (by simp)
    have c1 : w1.cell? ⟨w.heap.size, 1, none⟩ = some (.int .i64 n) := (hb1.cell (p := ⟨w.heap.size, 1, none⟩) (by simp)).trans (by simp)
    have c2 : w1.cell? ⟨w.heap.size, 2, none⟩ = some (.string s) := (hb1.cell (p := ⟨w.heap.size, 2, none⟩) (by simp)).trans (by simp)
    have c3 : w1.cell? ⟨w.heap.size, 3, none⟩ = some (.slice ka kn kc) := (hb1.cell (p := ⟨w.heap.size, 3, none⟩) (by simp)).trans (by simp)
    have c4 : w1.cell? ⟨w.heap.size, 4, none⟩ = some (.slice la ln lc) := (hb1.cell (p := ⟨w.heap.size, 4, none⟩) (by simp)).trans (by simp)
    clear hb1
    go_wp2_with fail
    refine (HA2.out _ hb0).mono ?_
    rintro e w2 ⟨v', rfl, ho, hf⟩
    have hcv := string_of_own (P := Tryd.prog) w2 50 9 5 Tryd.underlying50 Tryd.underlying5 Tryd.underlying9 ho.1
    have hb3 := hb0.trans (hf.below.mono hb0.size)
    clear c0 c1 c2 c3 c4 ho hf hb0
    go_wp2_with fail
    go_ret2
    exact ⟨rfl, hb3⟩
  · have hc0 : (c == 0) = false := by rw [beq_eq_false_iff_ne]; exact h0
    have hc1 : (c != 0) = true := by simp [h0]
    rw [HO.out, if_neg h0]
    clear HA HM HO h0
    go_enter Tryd.func19, Tryd.ntmps19
    go_wp2_with fail
    refine (HC.out _ (below_alloc w _)).mono ?_
    rintro e w1 ⟨rfl, hb1⟩
    have hb0 := (below_alloc w (.cells #[.int .i64 k, .int .i64 n, .string s, .slice ka kn kc, .slice la ln lc] 25)).trans (hb1.mono (by simp))
    go_wp2_with fail
    go_ret2
    exact ⟨rfl, hb0⟩
end Go.Proofs.YtnjcofjphneccaaDoor
