/-
  appendQuoted where four digits are written, by contract.
-/
import Derived.Test.YtnjcofjphneccaaDoorUB
import Derived.Deep.DeepCutAuto
namespace Go.Proofs.YtnjcofjphneccaaDoor
open Go.RowKit

theorem and15 (n : Nat) (h : n < 65536) : bits .and .i64 (n : Int) 15 = (n : Int) % 16 := by
  have hx : n &&& 15 = n % 16 := Nat.and_two_pow_sub_one_eq_mod n 4
  show IntKind.i64.wrap ((BitVec.ofInt 64 ((n : Nat) : Int) &&& BitVec.ofInt 64 ((15 : Nat) : Int)).toNat : Int) = _
  rw [BitVec.toNat_and, ofInt_u64 _ (by omega), ofInt_u64 _ (by omega), hx, IntKind.wrap_i64]
  omega
/-- the table of digits of the package's text -/
abbrev hexTab : ByteArray := ⟨#[48, 49, 50, 51, 52, 53, 54, 55, 56, 57, 97, 98, 99, 100, 101, 102]⟩
theorem hexTab_all : ∀ n : Fin 16, (hexTab[n.val]?.getD 0).toNat = (hexB n.val).toNat := by decide +kernel
theorem hexTab_run (w : World) (i : Int) (n : Nat) (hi : i = (n : Int)) (hn : n < 16) : (Instr.index 9 (.string hexTab) (.int .i64 i)).run Tryd.prog w = .ok (.int .u8 ((hexB n).toNat : Int)) w := by
  subst hi
  have hz : hexTab.size = 16 := by decide +kernel
  have h2 : ((n : Int)).toNat < hexTab.size := by rw [hz]; omega
  rw [run_index_string w 9 hexTab .i64 n Tryd.underlying9, dif_pos ⟨by omega, by rw [hz]; omega⟩]
  have := hexTab_all ⟨n, hn⟩
  simp only [Int.toNat_natCast] at h2 ⊢
  rw [ByteArray.getElem?_lt' _ _ h2, Option.getD_some] at this
  rw [this]
set_option maxHeartbeats 1000000 in
theorem appQ_hex (B : Nat) (v : Value) (n : Nat) (xs : List Value) (u : Nat) (w : World) (hown : w.ownsRow B 5 1 v n xs) (hu : u < 65536) (hn : n ≤ 140737488355320) (hB : B ≤ w.heap.size)
    (h4 : u = 11 ∨ u < 8 ∨ (14 ≤ u ∧ u < 32) ∨ 126 < u) :
    Calls Tryd.prog 64 #[v, .int .i64 u] w fun e w' => ∃ v', e = .returned v' ∧ w'.ownsRow B 5 1 v' (n + 6) (xs ++ (quoted u).map bv) ∧ Below B w w' := by
  obtain ⟨i0, hi, hz0, hz1, hz2⟩ := info_parts info5
  have b1 : ((u : Int) == 34) = false := by rw [beq_eq_false_iff_ne]; omega
  have b2 : ((u : Int) == 92) = false := by rw [beq_eq_false_iff_ne]; omega
  have a1 : bits .and .i64 ((u : Int) / 256) 15 = (u : Int) / 256 % 16 := and15 (u / 256) (by omega)
  have a2 : bits .and .i64 ((u : Int) / 16) 15 = (u : Int) / 16 % 16 := and15 (u / 16) (by omega)
  have a3 : bits .and .i64 (u : Int) 15 = (u : Int) % 16 := and15 u (by omega)
  have x1 : ∀ w, (Instr.index 9 (.string hexTab) (.int .i64 ((u : Int) / 4096))).run Tryd.prog w = .ok (.int .u8 ((hexB (u / 4096)).toNat : Int)) w := fun w => hexTab_run w _ _ (by omega) (by omega)
  have x2 : ∀ w, (Instr.index 9 (.string hexTab) (.int .i64 ((u : Int) / 256 % 16))).run Tryd.prog w = .ok (.int .u8 ((hexB (u / 256 % 16)).toNat : Int)) w := fun w => hexTab_run w _ _ (by omega) (by omega)
  have x3 : ∀ w, (Instr.index 9 (.string hexTab) (.int .i64 ((u : Int) / 16 % 16))).run Tryd.prog w = .ok (.int .u8 ((hexB (u / 16 % 16)).toNat : Int)) w := fun w => hexTab_run w _ _ (by omega) (by omega)
  have x4 : ∀ w, (Instr.index 9 (.string hexTab) (.int .i64 ((u : Int) % 16))).run Tryd.prog w = .ok (.int .u8 ((hexB (u % 16)).toNat : Int)) w := fun w => hexTab_run w _ _ (by omega) (by omega)
  have HQ : Hid (quoted u = [92, 117, hexB (u / 4096), hexB (u / 256 % 16), hexB (u / 16 % 16), hexB (u % 16)]) := by
    show quoted u = _
    unfold quoted
    rw [if_neg (by omega), if_neg (by omega), if_neg (by omega), if_neg (by omega), if_neg (by omega), if_neg (by omega), if_neg (by omega), if_pos (by omega)]
  have hm1 : n + 6 ≤ maxLen := by unfold maxLen; omega
  have hm2 : (n + 6) * 1 ≤ 140737488355328 := by omega
  go_enter Tryd.func64, Tryd.ntmps64
  go_upto_region 3 with (fail)
  go_cut [17] (fun s17 wx => s17 = .bool false ∧ wx = w)
  case first =>
    go_wp2
    all_goals go_meet
    all_goals exact ⟨by first | rfl | (congr 1; rw [bne_eq_false_iff_eq]; omega), rfl⟩
  case rest =>
    obtain ⟨rfl, rfl⟩ := hcut
    go_upto_region 5 with (fail)
    go_cut [34] (fun s34 wx => s34 = .bool true ∧ wx = wc)
    case first =>
      go_wp2
      all_goals go_meet
      all_goals exact ⟨by first | rfl | (congr 1; simp; omega), rfl⟩
    case rest =>
      obtain ⟨rfl, rfl⟩ := hcut
      go_upto_region 6 with (fail)
      go_cut [4] (fun s4 wx => ∃ v', s4 = v' ∧ wx.ownsRow B 5 1 v' (n + 6) (xs ++ (quoted u).map bv) ∧ Below B wc wx)
      case first =>
        go_region_law ((refine step_app _ rfl (.tmp 41) (.tmp 56) 50 (by rfl) B 5 i0 _ 1 Tryd.underlying50 hi hz0 hz1 hz2 rfl _ n _ (by rfl) (hown.alloc _) _ _ 6 (by rfl) rfl (new_cells _ _ _) (by simp; exact ⟨rfl, rfl, rfl, rfl, rfl, rfl⟩) hm1 hm2 (by simp; omega) ?_; intro v' w' hown' hb'))
        all_goals go_wp2_with fail
        all_goals go_meet
        all_goals exact ⟨_, rfl, by rw [HQ.out]; exact hown', ((Below.refl _ _).alloc hB _).drew.trans hb'⟩
      case rest =>
        obtain ⟨v', rfl, h1, h2⟩ := hcut
        go_wp2
        go_ret
        exact ⟨_, rfl, h1, h2⟩
end Go.Proofs.YtnjcofjphneccaaDoor
