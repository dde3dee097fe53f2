/-
  Laid by wip/scope/lay.py out of wip/tree: It.
  isTaker; which functions a function value may be; are at one to four. (gen_it.py)
-/
import Derived.Test.YtgehgccgologpaaHh
namespace Go.Proofs.Ytgehgccgologpaa.R
open Go.RowKit Go.Proofs.Ytgehgccgologpaa Go.Proofs.Ytgehgccgologpaa.T
set_option maxRecDepth 8000 in
theorem isTaker_any (v : V) (x : X) (w : World) (h : Is w v x) (hlen : v.l.length ≤ 4194304) : Calls Try.prog 102 #[x.v] w fun e w' => e = .returned (.bool (isTk v)) ∧ Below w.heap.size w w' := by
  obtain ⟨ka, kc, la, lc, rfl, h1, h2, h3, h4⟩ := h.open
  have HC := Lib.hid fun w' (hb : Below w.heap.size w w') => isTarget_any v _ w' (Is.below hb _ _ h)
  have HV : Hid (isTk v = (isTg v || (isK 22 v && match v.l with | [d] => d.l.isEmpty | _ => false))) := Lib.hid rfl
  have HK : Hid (isK 22 v = decide (v.k = 22)) := Lib.hid rfl
  simp only [X.v] at HC ⊢
  have HB := Lib.hid (below_alloc w (.cells #[.int .i64 v.k, .string v.nm, .int .i64 v.n, .string v.s, .slice ka v.ks.length kc, .slice la v.l.length lc] 25))
  clear h h1 h3
  cases hP : isTg v with
  | true =>
    rw [hP] at HV HC
    clear hP h2 h4 HK hlen
    generalize v.nm = nm at *
    generalize v.n = n at *
    generalize v.s = s at *
    generalize v.ks.length = kn at *
    generalize v.k = k at *
    generalize v.l.length = ln at *
    go_enter Try.func102, Try.ntmps102
    go_wp2_with fail
    refine (HC.out _ HB.out).mono ?_
    rintro e w' ⟨rfl, hb⟩
    have hb2 := HB.out.trans (hb.mono (by simp))
    clear hb
    go_wp2_with fail
    go_ret
    exact ⟨by rw [HV.out]; rfl, hb2⟩
  | false =>
    rw [hP] at HV HC
    clear hP
    by_cases h22 : v.k = 22
    · rw [HK.out, decide_eq_true h22] at HV
      rw [h22] at HC HB ⊢
      clear HK h22
      by_cases hone : v.l.length = 1
      · obtain ⟨d, hl⟩ : ∃ d, v.l = [d] := by
          rcases hl : v.l with _ | ⟨d, _ | ⟨c, r⟩⟩
          · rw [hl] at hone; cases hone
          · exact ⟨d, rfl⟩
          · rw [hl] at hone; simp at hone
        rw [hl] at h4 HV
        dsimp only at HV
        obtain ⟨g, o, y, rfl, hg, hy, hya, _⟩ := h4.cons
        have hyc := hy.below hg HB.out
        obtain ⟨yka, ykc, yla, ylc, rfl, _, _, _, _⟩ := hya.open
        obtain ⟨c0, c1, c2, c3, c4, c5⟩ := hyc
        dsimp only at c0 c1 c2 c3 c4 c5
        generalize v.l.length = ln at *
        subst hone
        cases hdl : d.l with
        | nil =>
          rw [hdl] at HV c5
          rw [List.length_nil] at c5
          clear h2 h4 hy hya hl hlen hdl
          generalize v.nm = nm at *
          generalize v.n = n at *
          generalize v.s = s at *
          generalize v.ks.length = kn at *
          go_enter Try.func102, Try.ntmps102
          go_wp2_with fail
          refine (HC.out _ HB.out).mono ?_
          rintro e w' ⟨rfl, hb⟩
          have hb2 := HB.out.trans (hb.mono (by simp))
          have hbx : ∀ j, w'.cell? ⟨w.heap.size, j, none⟩ = (w.alloc (.cells #[.int .i64 22, .string nm, .int .i64 n, .string s, .slice ka kn kc, .slice (some ⟨g, o, none⟩) 1 lc] 25)).cell? ⟨w.heap.size, j, none⟩ := fun j => hb.cell (p := ⟨w.heap.size, j, none⟩) (by simp)
          have e0 := hbx 0
          have e1 := hbx 1
          have e2 := hbx 2
          have e3 := hbx 3
          have e4 := hbx 4
          have e5 := hbx 5
          simp at e0 e1 e2 e3 e4 e5
          clear hbx
          have d5 := (hb.cell (p := ⟨g, o + 5, none⟩) (by simp; exact Nat.lt_succ_of_lt (by assumption))).trans c5
          clear hb c0 c1 c2 c3 c4 c5
          go_wp2_with fail
          go_ret
          exact ⟨by rw [HV.out]; rfl, hb2⟩
        | cons c r =>
          rw [hdl] at HV c5
          have hd0 : ((((c :: r : List V).length : Nat) : Int) == 0) = false := by rw [beq_eq_false_iff_ne]; simp only [List.length_cons]; omega
          generalize (c :: r : List V).length = dn at *
          clear h2 h4 hy hya hl hlen hdl
          generalize v.nm = nm at *
          generalize v.n = n at *
          generalize v.s = s at *
          generalize v.ks.length = kn at *
          go_enter Try.func102, Try.ntmps102
          go_wp2_with fail
          refine (HC.out _ HB.out).mono ?_
          rintro e w' ⟨rfl, hb⟩
          have hb2 := HB.out.trans (hb.mono (by simp))
          have hbx : ∀ j, w'.cell? ⟨w.heap.size, j, none⟩ = (w.alloc (.cells #[.int .i64 22, .string nm, .int .i64 n, .string s, .slice ka kn kc, .slice (some ⟨g, o, none⟩) 1 lc] 25)).cell? ⟨w.heap.size, j, none⟩ := fun j => hb.cell (p := ⟨w.heap.size, j, none⟩) (by simp)
          have e0 := hbx 0
          have e1 := hbx 1
          have e2 := hbx 2
          have e3 := hbx 3
          have e4 := hbx 4
          have e5 := hbx 5
          simp at e0 e1 e2 e3 e4 e5
          clear hbx
          have d5 := (hb.cell (p := ⟨g, o + 5, none⟩) (by simp; exact Nat.lt_succ_of_lt (by assumption))).trans c5
          clear hb c0 c1 c2 c3 c4 c5
          go_wp2_with fail
          go_ret
          exact ⟨by rw [HV.out]; rfl, hb2⟩
      · have hb1 : ((v.l.length : Int) == 1) = false := by rw [beq_eq_false_iff_ne]; omega
        have HV2 : Hid (isTk v = false) := by
          show _ = _
          rw [HV.out]
          rcases hl : v.l with _ | ⟨d, _ | ⟨c, r⟩⟩
          · rfl
          · rw [hl] at hone; simp at hone
          · rfl
        clear HV
        rename Hid (isTk v = false) => HV
        clear h2 h4 hlen hone
        generalize v.nm = nm at *
        generalize v.n = n at *
        generalize v.s = s at *
        generalize v.ks.length = kn at *
        generalize v.l.length = ln at *
        go_enter Try.func102, Try.ntmps102
        go_wp2_with fail
        refine (HC.out _ HB.out).mono ?_
        rintro e w' ⟨rfl, hb⟩
        have hb2 := HB.out.trans (hb.mono (by simp))
        have hbx : ∀ j, w'.cell? ⟨w.heap.size, j, none⟩ = (w.alloc (.cells #[.int .i64 22, .string nm, .int .i64 n, .string s, .slice ka kn kc, .slice la ln lc] 25)).cell? ⟨w.heap.size, j, none⟩ := fun j => hb.cell (p := ⟨w.heap.size, j, none⟩) (by simp)
        have c0 := hbx 0
        have c1 := hbx 1
        have c2 := hbx 2
        have c3 := hbx 3
        have c4 := hbx 4
        have c5 := hbx 5
        simp at c0 c1 c2 c3 c4 c5
        clear hbx
        clear hb
        go_wp2_with fail
        go_ret
        exact ⟨by rw [HV.out]; rfl, hb2⟩
  
    · rw [HK.out, decide_eq_false h22, Bool.false_and] at HV
      have hb22 : (v.k == 22) = false := by rw [beq_eq_false_iff_ne]; exact h22
      clear HK h22 h2 h4 hlen
      generalize v.nm = nm at *
      generalize v.n = n at *
      generalize v.s = s at *
      generalize v.ks.length = kn at *
      generalize v.k = k at *
      generalize v.l.length = ln at *
      go_enter Try.func102, Try.ntmps102
      go_wp2_with fail
      refine (HC.out _ HB.out).mono ?_
      rintro e w' ⟨rfl, hb⟩
      have hb2 := HB.out.trans (hb.mono (by simp))
      have hbx : ∀ j, w'.cell? ⟨w.heap.size, j, none⟩ = (w.alloc (.cells #[.int .i64 k, .string nm, .int .i64 n, .string s, .slice ka kn kc, .slice la ln lc] 25)).cell? ⟨w.heap.size, j, none⟩ := fun j => hb.cell (p := ⟨w.heap.size, j, none⟩) (by simp)
      have c0 := hbx 0
      have c1 := hbx 1
      have c2 := hbx 2
      have c3 := hbx 3
      have c4 := hbx 4
      have c5 := hbx 5
      simp at c0 c1 c2 c3 c4 c5
      clear hbx
      clear hb
      go_wp2_with fail
      go_ret
      exact ⟨by rw [HV.out]; rfl, hb2⟩
theorem ent_isStatement : Ent 92 := enters_of Try.func92 (by kernel_rfl) rfl
theorem on_isStatement (l : List V) : PredB 92 isSt l := isStatement_any.on l
theorem ent_isExpr : Ent 93 := enters_of Try.func93 (by kernel_rfl) rfl
theorem on_isExpr (l : List V) : PredB 93 isE l := isExpr_any.on l
theorem ent_isProp : Ent 94 := enters_of Try.func94 (by kernel_rfl) rfl
theorem on_isProp (l : List V) : PredB 94 (isK 9) l := isProp_any.on l
theorem ent_isDecl : Ent 97 := enters_of Try.func97 (by kernel_rfl) rfl
theorem on_isDecl (l : List V) : PredB 97 (isK 23) l := isDecl_any.on l
theorem ent_isInner : Ent 98 := enters_of Try.func98 (by kernel_rfl) rfl
theorem on_isInner (l : List V) : PredB 98 isIn l := isInner_any.on l
theorem ent_isBlock : Ent 99 := enters_of Try.func99 (by kernel_rfl) rfl
theorem on_isBlock (l : List V) : PredB 99 (isK 25) l := isBlock_any.on l
theorem ent_isBeginning : Ent 100 := enters_of Try.func100 (by kernel_rfl) rfl
theorem on_isBeginning (l : List V) : PredB 100 isBg l := isBeginning_any.on l
theorem ent_isExprOrEmpty : Ent 101 := enters_of Try.func101 (by kernel_rfl) rfl
theorem on_isExprOrEmpty (l : List V) : PredB 101 isEO l := isExprOrEmpty_any.on l
theorem ent_isBlockOrEmpty : Ent 103 := enters_of Try.func103 (by kernel_rfl) rfl
theorem on_isBlockOrEmpty (l : List V) : PredB 103 isBO l := isBlockOrEmpty_any.on l
theorem ent_isCase : Ent 104 := enters_of Try.func104 (by kernel_rfl) rfl
theorem on_isCase (l : List V) : PredB 104 (isK 37) l := isCase_any.on l
theorem ent_IsTarget : Ent 96 := enters_of Try.func96 (by kernel_rfl) rfl
theorem on_IsTarget (l : List V) : PredB 96 isTg l := isTarget_any.on l
theorem ent_isTaker : Ent 102 := enters_of Try.func102 (by kernel_rfl) rfl
theorem on_isTaker (l : List V) (h : ∀ u ∈ l, u.l.length ≤ 4194304) : PredB 102 isTk l := fun v hv x w hx => isTaker_any v x w hx (h v hv)
theorem ent_isDefault : Ent 105 := enters_of Try.func105 (by kernel_rfl) rfl
theorem on_isDefault (l : List V) (h : ∀ u ∈ l, u.l.length ≤ 4194304) : PredB 105 isDf l := fun v hv x w hx => isDefault_any v x w hx (h v hv)
theorem areC1 {fa : Nat} {pa : V → Bool} {l : List V} (ea : Ent fa) (ha : PredB fa pa l) {A : Option Addr} {c g : Nat} {w : World} (hg : g < w.heap.size) (c0 : w.cell? ⟨g, 0, none⟩ = some (.func (.func fa) #[] #[])) (hR : Row w A l) (hlen : l.length ≤ 4194304) :
    Calls Try.prog 95 #[.slice A l.length c, .slice (some ⟨g, 0, none⟩) 1 1] w fun e w' => e = .returned (.bool (are [pa] l)) ∧ Below w.heap.size w w' :=
  are_any [(fa, pa)] l (by
    intro q hq
    simp only [List.mem_cons, List.not_mem_nil, or_false] at hq
    rcases hq with rfl
    · exact ⟨ea, ha⟩) A c g 1 1 w rfl rfl hg (by
    intro j hj
    match j, hj with
    | 0, _ => exact c0
    | j + 1, hj => exact absurd hj (by simp)) hR hlen (by simp)
theorem areC2 {fa : Nat} {pa : V → Bool} {fb : Nat} {pb : V → Bool} {l : List V} (ea : Ent fa) (ha : PredB fa pa l) (eb : Ent fb) (hb : PredB fb pb l) {A : Option Addr} {c g : Nat} {w : World} (hg : g < w.heap.size) (c0 : w.cell? ⟨g, 0, none⟩ = some (.func (.func fa) #[] #[])) (c1 : w.cell? ⟨g, 1, none⟩ = some (.func (.func fb) #[] #[])) (hR : Row w A l) (hlen : l.length ≤ 4194304) :
    Calls Try.prog 95 #[.slice A l.length c, .slice (some ⟨g, 0, none⟩) 2 2] w fun e w' => e = .returned (.bool (are [pa, pb] l)) ∧ Below w.heap.size w w' :=
  are_any [(fa, pa), (fb, pb)] l (by
    intro q hq
    simp only [List.mem_cons, List.not_mem_nil, or_false] at hq
    rcases hq with rfl | rfl
    · exact ⟨ea, ha⟩
    · exact ⟨eb, hb⟩) A c g 2 2 w rfl rfl hg (by
    intro j hj
    match j, hj with
    | 0, _ => exact c0
    | 1, _ => exact c1
    | j + 2, hj => exact absurd hj (by simp)) hR hlen (by simp)
theorem areC3 {fa : Nat} {pa : V → Bool} {fb : Nat} {pb : V → Bool} {fc : Nat} {pc : V → Bool} {l : List V} (ea : Ent fa) (ha : PredB fa pa l) (eb : Ent fb) (hb : PredB fb pb l) (ec : Ent fc) (hc : PredB fc pc l) {A : Option Addr} {c g : Nat} {w : World} (hg : g < w.heap.size) (c0 : w.cell? ⟨g, 0, none⟩ = some (.func (.func fa) #[] #[])) (c1 : w.cell? ⟨g, 1, none⟩ = some (.func (.func fb) #[] #[])) (c2 : w.cell? ⟨g, 2, none⟩ = some (.func (.func fc) #[] #[])) (hR : Row w A l) (hlen : l.length ≤ 4194304) :
    Calls Try.prog 95 #[.slice A l.length c, .slice (some ⟨g, 0, none⟩) 3 3] w fun e w' => e = .returned (.bool (are [pa, pb, pc] l)) ∧ Below w.heap.size w w' :=
  are_any [(fa, pa), (fb, pb), (fc, pc)] l (by
    intro q hq
    simp only [List.mem_cons, List.not_mem_nil, or_false] at hq
    rcases hq with rfl | rfl | rfl
    · exact ⟨ea, ha⟩
    · exact ⟨eb, hb⟩
    · exact ⟨ec, hc⟩) A c g 3 3 w rfl rfl hg (by
    intro j hj
    match j, hj with
    | 0, _ => exact c0
    | 1, _ => exact c1
    | 2, _ => exact c2
    | j + 3, hj => exact absurd hj (by simp)) hR hlen (by simp)
theorem areC4 {fa : Nat} {pa : V → Bool} {fb : Nat} {pb : V → Bool} {fc : Nat} {pc : V → Bool} {fd : Nat} {pd : V → Bool} {l : List V} (ea : Ent fa) (ha : PredB fa pa l) (eb : Ent fb) (hb : PredB fb pb l) (ec : Ent fc) (hc : PredB fc pc l) (ed : Ent fd) (hd : PredB fd pd l) {A : Option Addr} {c g : Nat} {w : World} (hg : g < w.heap.size) (c0 : w.cell? ⟨g, 0, none⟩ = some (.func (.func fa) #[] #[])) (c1 : w.cell? ⟨g, 1, none⟩ = some (.func (.func fb) #[] #[])) (c2 : w.cell? ⟨g, 2, none⟩ = some (.func (.func fc) #[] #[])) (c3 : w.cell? ⟨g, 3, none⟩ = some (.func (.func fd) #[] #[])) (hR : Row w A l) (hlen : l.length ≤ 4194304) :
    Calls Try.prog 95 #[.slice A l.length c, .slice (some ⟨g, 0, none⟩) 4 4] w fun e w' => e = .returned (.bool (are [pa, pb, pc, pd] l)) ∧ Below w.heap.size w w' :=
  are_any [(fa, pa), (fb, pb), (fc, pc), (fd, pd)] l (by
    intro q hq
    simp only [List.mem_cons, List.not_mem_nil, or_false] at hq
    rcases hq with rfl | rfl | rfl | rfl
    · exact ⟨ea, ha⟩
    · exact ⟨eb, hb⟩
    · exact ⟨ec, hc⟩
    · exact ⟨ed, hd⟩) A c g 4 4 w rfl rfl hg (by
    intro j hj
    match j, hj with
    | 0, _ => exact c0
    | 1, _ => exact c1
    | 2, _ => exact c2
    | 3, _ => exact c3
    | j + 4, hj => exact absurd hj (by simp)) hR hlen (by simp)
end Go.Proofs.Ytgehgccgologpaa.R
