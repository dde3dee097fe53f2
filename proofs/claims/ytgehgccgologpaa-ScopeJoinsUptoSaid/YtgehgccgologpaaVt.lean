/-
  Laid by wip/scope/lay.py out of wip/tree: Vh Vt.
  PLAIN: an expression may be, in the reference's words.
  PLAIN: what may be, in the reference's words, kind for kind.
-/
import Derived.Test.YtgehgccgologpaaKd
import Derived.Test.YtgehgccgologpaaVs
import Derived.Test.YtgehgccgologpaaVq
namespace Go.Proofs.Ytgehgccgologpaa.R
open Go.RowKit Go.Proofs.Ytgehgccgologpaa Go.Proofs.Ytgehgccgologpaa.T
/-- an expression that may be; a statement but for SFunc; all statements -/
def EE (u : V) : Bool := isE u && u.ok
def SS (u : V) : Bool := isIn u && u.ok
def FF (u : V) : Bool := isSt u && u.ok
theorem fields_c {v : V} {c c' : Bool} (h : ¬ v.k = 35) : fields c v = fields c' v := by
  unfold fields nmOk
  simp only [if_neg h]
theorem ok_cut (v : V) (h : ¬ v.k = 35) : v.ok = (fields (ctch3 v) v && (kids v && V.oks v.l)) := by
  rw [ok_eq]
  unfold right
  rw [fields_c h (c' := ctch3 v), Bool.and_assoc]
theorem all_oks (p : V → Bool) : ∀ l : List V, (l.all p && V.oks l) = l.all fun u => p u && u.ok
  | [] => rfl
  | a :: l => by
    rw [List.all_cons, List.all_cons, V.oks, ← all_oks p l]
    cases p a <;> cases a.ok <;> cases l.all p <;> cases V.oks l <;> rfl
theorem nil_oks (l : List V) : (l.isEmpty && V.oks l) = l.isEmpty := by cases l <;> simp [V.oks]
theorem are_1 (l : List V) : (are [isE] l && V.oks l) = (decide (l.length = 1) && l.all EE) := by
  rcases l with _ | ⟨a, _ | ⟨b, r⟩⟩ <;> simp [are, V.oks, EE]
theorem are_2 (l : List V) : (are [isE, isE] l && V.oks l) = (decide (l.length = 2) && l.all EE) := by
  rcases l with _ | ⟨a, _ | ⟨b, _ | ⟨c, r⟩⟩⟩ <;> simp [are, V.oks, EE]
  cases isE a <;> cases isE b <;> cases a.ok <;> cases b.ok <;> rfl
theorem are_3 (l : List V) : (are [isE, isE, isE] l && V.oks l) = (decide (l.length = 3) && l.all EE) := by
  rcases l with _ | ⟨a, _ | ⟨b, _ | ⟨c, _ | ⟨d, r⟩⟩⟩⟩ <;> simp [are, V.oks, EE]
  cases isE a <;> cases isE b <;> cases isE c <;> cases a.ok <;> cases b.ok <;> cases c.ok <;> rfl
theorem tg_e {u : V} (h : isTg u = true) : isE u = true := by
  unfold isTg at h
  rw [decide_eq_true_eq] at h
  unfold isE
  rw [decide_eq_true_eq]
  omega
/-- the first is a target -/
def tg0 (l : List V) : Bool := match l with | a :: _ => isTg a | [] => false
theorem are_t1 (l : List V) : (are [isTg] l && V.oks l) = (decide (l.length = 1) && (tg0 l && l.all EE)) := by
  rcases l with _ | ⟨a, _ | ⟨b, r⟩⟩ <;> simp [are, V.oks, EE, tg0]
  cases h : isTg a
  · rfl
  · rw [tg_e h]
    rfl
theorem are_t2 (l : List V) : (are [isTg, isE] l && V.oks l) = (decide (l.length = 2) && (tg0 l && l.all EE)) := by
  rcases l with _ | ⟨a, _ | ⟨b, _ | ⟨c, r⟩⟩⟩ <;> simp [are, V.oks, EE, tg0]
  cases h : isTg a
  · rfl
  · rw [tg_e h]
    cases isE b <;> cases a.ok <;> cases b.ok <;> rfl
end Go.Proofs.Ytgehgccgologpaa.R
namespace Go.Proofs.Ytgehgccgologpaa.R
open Go.RowKit Go.Proofs.Ytgehgccgologpaa Go.Proofs.Ytgehgccgologpaa.T
def BB (u : V) : Bool := isK 25 u && u.ok
def DD (u : V) : Bool := isK 22 u && u.ok
theorem EE_k {v : V} {k : Int} (hk : v.k = k) (h : 1 ≤ k ∧ k ≤ 21 ∧ ¬ k = 9) : EE v = v.ok := by
  have : isE v = true := by unfold isE; rw [decide_eq_true_eq]; omega
  unfold EE
  rw [this]
  rfl
theorem EE_no {v : V} (h : ¬ (1 ≤ v.k ∧ v.k ≤ 21 ∧ ¬ v.k = 9)) : EE v = false := by
  have : isE v = false := by unfold isE; exact decide_eq_false h
  unfold EE
  rw [this]
  rfl
theorem SS_k {v : V} {k : Int} (hk : v.k = k) (h : 22 ≤ k ∧ k ≤ 40 ∧ ¬ k = 23 ∧ ¬ k = 37 ∧ ¬ k = 39) : SS v = v.ok := by
  have : isIn v = true := by
    unfold isIn isSt
    rw [Bool.and_eq_true, decide_eq_true_eq, decide_eq_true_eq]
    omega
  unfold SS
  rw [this]
  rfl
theorem SS_no {v : V} (h : ¬ (22 ≤ v.k ∧ v.k ≤ 40 ∧ ¬ v.k = 23 ∧ ¬ v.k = 37 ∧ ¬ v.k = 39)) : SS v = false := by
  have : isIn v = false := by
    rw [Bool.eq_false_iff]
    intro e
    unfold isIn isSt at e
    rw [Bool.and_eq_true, decide_eq_true_eq, decide_eq_true_eq] at e
    omega
  unfold SS
  rw [this]
  rfl
theorem FF_39 {v : V} (hk : v.k = 39) : FF v = v.ok := by
  have : isSt v = true := by
    unfold isSt
    rw [decide_eq_true_eq]
    omega
  unfold FF
  rw [this]
  rfl
theorem FF_SS {v : V} (hk : ¬ v.k = 39) : FF v = SS v := by
  unfold FF SS isIn
  rw [decide_eq_true hk, Bool.and_true]
theorem isK_of {v : V} {k : Int} (h : v.k = k) : isK k v = true := by
  unfold isK
  rw [h, decide_eq_true rfl]
theorem isK_no {v : V} {k : Int} (h : ¬ v.k = k) : isK k v = false := by
  unfold isK
  exact decide_eq_false h
theorem isK_two {v : V} {j k : Int} (h : ¬ j = k) : (isK j v && isK k v) = false := by
  by_cases hj : v.k = j
  · rw [isK_no (k := k) (by omega), Bool.and_false]
  · rw [isK_no hj, Bool.false_and]
theorem empty_len (l : List V) : l.isEmpty = decide (l.length = 0) := by cases l <;> simp
theorem some_len (l : List V) : (!l.isEmpty) = decide (0 < l.length) := by cases l <;> simp
theorem empV_ok (u : V) : empV u = (isK 42 u && u.ok) := by
  unfold empV
  by_cases h : u.k = 42
  · rw [isK_of h, ok_cut u (by omega), kids_42 h, nil_oks]
  · rw [isK_no h]
    rfl
theorem ee_leaf {v : V} {k : Int} (hk : v.k = k) (h : 1 ≤ k ∧ k ≤ 6) (hq : kids v = v.l.isEmpty) : EE v = (fields (ctch3 v) v && decide (v.l.length = 0)) := by
  rw [EE_k hk (by omega), ok_cut v (by omega), hq, nil_oks, empty_len]
theorem ee_7 {v : V} (hk : v.k = 7) : EE v = (fields (ctch3 v) v && v.l.all EE) := by
  rw [EE_k hk (by decide), ok_cut v (by omega), kids_7 hk, all_oks]
  rfl
theorem ee_10 {v : V} (hk : v.k = 10) : EE v = (fields (ctch3 v) v && v.l.all FF) := by
  rw [EE_k hk (by decide), ok_cut v (by omega), kids_10 hk, all_oks]
  rfl
theorem ee_some {v : V} {k : Int} (hk : v.k = k) (h : 1 ≤ k ∧ k ≤ 21 ∧ ¬ k = 9) (hq : kids v = (!v.l.isEmpty && v.l.all isE)) : EE v = (fields (ctch3 v) v && (decide (0 < v.l.length) && v.l.all EE)) := by
  rw [EE_k hk h, ok_cut v (by omega), hq, Bool.and_assoc, all_oks, some_len]
  rfl
theorem ee_1 {v : V} {k : Int} (hk : v.k = k) (h : 1 ≤ k ∧ k ≤ 21 ∧ ¬ k = 9) (hq : kids v = are [isE] v.l) : EE v = (fields (ctch3 v) v && (decide (v.l.length = 1) && v.l.all EE)) := by
  rw [EE_k hk h, ok_cut v (by omega), hq, are_1]
theorem ee_2 {v : V} {k : Int} (hk : v.k = k) (h : 1 ≤ k ∧ k ≤ 21 ∧ ¬ k = 9) (hq : kids v = are [isE, isE] v.l) : EE v = (fields (ctch3 v) v && (decide (v.l.length = 2) && v.l.all EE)) := by
  rw [EE_k hk h, ok_cut v (by omega), hq, are_2]
theorem ee_3 {v : V} {k : Int} (hk : v.k = k) (h : 1 ≤ k ∧ k ≤ 21 ∧ ¬ k = 9) (hq : kids v = are [isE, isE, isE] v.l) : EE v = (fields (ctch3 v) v && (decide (v.l.length = 3) && v.l.all EE)) := by
  rw [EE_k hk h, ok_cut v (by omega), hq, are_3]
theorem tg0_get {l : List V} (h : 0 < l.length) : tg0 l = isTg (l[0]'h) := by
  cases l
  · cases h
  · rfl
theorem ee_16 {v : V} (hk : v.k = 16) (h : v.l.length = 1) : EE v = (fields (ctch3 v) v && (isTg (v.l[0]'(by omega)) && v.l.all EE)) := by
  rw [EE_k hk (by decide), ok_cut v (by omega), kids_16 hk, are_t1, tg0_get (by omega), decide_eq_true h, Bool.true_and]
theorem ee_16n {v : V} (hk : v.k = 16) (h : ¬ v.l.length = 1) : EE v = (fields (ctch3 v) v && false) := by
  rw [EE_k hk (by decide), ok_cut v (by omega), kids_16 hk, are_t1, decide_eq_false h, Bool.false_and]
theorem ee_20 {v : V} (hk : v.k = 20) (h : v.l.length = 2) : EE v = (fields (ctch3 v) v && (isTg (v.l[0]'(by omega)) && v.l.all EE)) := by
  rw [EE_k hk (by decide), ok_cut v (by omega), kids_20 hk, are_t2, tg0_get (by omega), decide_eq_true h, Bool.true_and]
theorem ee_20n {v : V} (hk : v.k = 20) (h : ¬ v.l.length = 2) : EE v = (fields (ctch3 v) v && false) := by
  rw [EE_k hk (by decide), ok_cut v (by omega), kids_20 hk, are_t2, decide_eq_false h, Bool.false_and]
theorem prop_ok (u : V) : (isK 9 u && u.ok) = propV EE u := by
  unfold propV
  by_cases h : u.k = 9
  · rw [isK_of h, ok_cut u (by omega), kids_9 h, are_1]
    unfold fst0
    rcases u.l with _ | ⟨a, _ | ⟨b, r⟩⟩ <;> simp
  · rw [isK_no h]
    rfl
theorem ee_8 {v : V} (hk : v.k = 8) : EE v = (fields (ctch3 v) v && v.l.all (propV EE)) := by
  rw [EE_k hk (by decide), ok_cut v (by omega), kids_8 hk, all_oks, ← funext prop_ok]
/-! statements -/
theorem ss_leaf {v : V} {k : Int} (hk : v.k = k) (h : 22 ≤ k ∧ k ≤ 40 ∧ ¬ k = 23 ∧ ¬ k = 37 ∧ ¬ k = 39) (h35 : ¬ k = 35) (hq : kids v = v.l.isEmpty) : SS v = (fields (ctch3 v) v && decide (v.l.length = 0)) := by
  rw [SS_k hk h, ok_cut v (by omega), hq, nil_oks, empty_len]
theorem ss_same {v : V} {k : Int} (hk : v.k = k) (h : 22 ≤ k ∧ k ≤ 40 ∧ ¬ k = 23 ∧ ¬ k = 37 ∧ ¬ k = 39) (h35 : ¬ k = 35) : SS v = (fields (ctch3 v) v && (isK k v && v.ok)) := by
  rw [SS_k hk h, isK_of hk, ok_cut v (by omega)]
  cases fields (ctch3 v) v <;> rfl
theorem bb_eq (v : V) : BB v = (isK 25 v && (fields (ctch3 v) v && v.l.all SS)) := by
  unfold BB
  by_cases h : v.k = 25
  · rw [ok_cut v (by omega), kids_25 h, all_oks]
    rfl
  · rw [isK_no h]
    rfl
theorem decl_ok (u : V) : (isK 23 u && u.ok) = declV (fun u => u.l.all EE) u := by
  unfold declV
  by_cases h : u.k = 23
  · rw [isK_of h, ok_cut u (by omega), kids_23 h]
    show _ = (true && (fields (ctch3 u) u && (decide (u.l.length ≤ 1) && u.l.all EE)))
    rcases u.l with _ | ⟨a, _ | ⟨b, r⟩⟩ <;> simp [are, V.oks, EE]
  · rw [isK_no h]
    rfl
theorem dd_eq (v : V) : DD v = (isK 22 v && (fields (ctch3 v) v && (!v.l.isEmpty && v.l.all (declV fun u => u.l.all EE)))) := by
  unfold DD
  by_cases h : v.k = 22
  · rw [ok_cut v (by omega), kids_22 h, Bool.and_assoc, all_oks, funext decl_ok]
  · rw [isK_no h]
    rfl
theorem ss_1 {v a : V} {k : Int} (hk : v.k = k) (h : k = 24 ∨ k = 34) (hq : kids v = are [isE] v.l) (hl : v.l = [a]) : SS v = (fields (ctch3 v) v && EE a) := by
  rw [SS_k hk (by omega), ok_cut v (by omega), hq, are_1, hl]
  simp
theorem ss_1n {v : V} {k : Int} (hk : v.k = k) (h : k = 24 ∨ k = 34) (hq : kids v = are [isE] v.l) (hl : ¬ v.l.length = 1) : SS v = (fields (ctch3 v) v && false) := by
  rw [SS_k hk (by omega), ok_cut v (by omega), hq, are_1, decide_eq_false hl, Bool.false_and]
theorem ss_33 {v : V} (hk : v.k = 33) : SS v = (fields (ctch3 v) v && (decide (v.l.length ≤ 1) && v.l.all EE)) := by
  rw [SS_k hk (by decide), ok_cut v (by omega), kids_33 hk]
  rcases v.l with _ | ⟨a, _ | ⟨b, r⟩⟩ <;> simp [are, V.oks, EE]
theorem ss_38 {v a : V} (hk : v.k = 38) (hl : v.l = [a]) : SS v = (fields (ctch3 v) v && SS a) := by
  rw [SS_k hk (by decide), ok_cut v (by omega), kids_38 hk, hl]
  simp [are, V.oks, SS]
theorem ss_38n {v : V} (hk : v.k = 38) (hl : ¬ v.l.length = 1) : SS v = (fields (ctch3 v) v && false) := by
  rw [SS_k hk (by decide), ok_cut v (by omega), kids_38 hk]
  rcases h : v.l with _ | ⟨a, _ | ⟨b, r⟩⟩
  · simp [are]
  · rw [h] at hl; exact absurd rfl hl
  · simp [are]
theorem ss_26a {v a b : V} (hk : v.k = 26) (hl : v.l = [a, b]) : SS v = (fields (ctch3 v) v && (EE a && BB b)) := by
  rw [SS_k hk (by decide), ok_cut v (by omega), kids_26 hk, hl]
  simp only [are, V.oks, EE, BB]
  cases isE a <;> cases isK 25 b <;> cases a.ok <;> cases b.ok <;> rfl
theorem ss_26b {v a b c : V} (hk : v.k = 26) (hl : v.l = [a, b, c]) : SS v = (fields (ctch3 v) v && (BB c && (EE a && BB b))) := by
  rw [SS_k hk (by decide), ok_cut v (by omega), kids_26 hk, hl]
  simp only [are, V.oks, EE, BB]
  cases isE a <;> cases isK 25 b <;> cases isK 25 c <;> cases a.ok <;> cases b.ok <;> cases c.ok <;> rfl
theorem ss_26n {v : V} (hk : v.k = 26) (h2 : ¬ v.l.length = 2) (h3 : ¬ v.l.length = 3) : SS v = (fields (ctch3 v) v && false) := by
  rw [SS_k hk (by decide), ok_cut v (by omega), kids_26 hk]
  rcases h : v.l with _ | ⟨a, _ | ⟨b, _ | ⟨c, _ | ⟨d, r⟩⟩⟩⟩
  · simp [are]
  · simp [are]
  · rw [h] at h2; exact absurd rfl h2
  · rw [h] at h3; exact absurd rfl h3
  · simp [are]
theorem ss_27 {v a b : V} (hk : v.k = 27) (hl : v.l = [a, b]) : SS v = (fields (ctch3 v) v && (EE a && BB b)) := by
  rw [SS_k hk (by decide), ok_cut v (by omega), kids_27 hk, hl]
  simp only [are, V.oks, EE, BB]
  cases isE a <;> cases isK 25 b <;> cases a.ok <;> cases b.ok <;> rfl
theorem ss_28 {v a b : V} (hk : v.k = 28) (hl : v.l = [a, b]) : SS v = (fields (ctch3 v) v && (BB a && EE b)) := by
  rw [SS_k hk (by decide), ok_cut v (by omega), kids_28 hk, hl]
  simp only [are, V.oks, EE, BB]
  cases isE b <;> cases isK 25 a <;> cases a.ok <;> cases b.ok <;> rfl
theorem ss_27n {v : V} (hk : v.k = 27) (h2 : ¬ v.l.length = 2) : SS v = (fields (ctch3 v) v && false) := by
  rw [SS_k hk (by decide), ok_cut v (by omega), kids_27 hk]
  rcases h : v.l with _ | ⟨a, _ | ⟨b, _ | ⟨c, r⟩⟩⟩
  · simp [are]
  · simp [are]
  · rw [h] at h2; exact absurd rfl h2
  · simp [are]
theorem ss_28n {v : V} (hk : v.k = 28) (h2 : ¬ v.l.length = 2) : SS v = (fields (ctch3 v) v && false) := by
  rw [SS_k hk (by decide), ok_cut v (by omega), kids_28 hk]
  rcases h : v.l with _ | ⟨a, _ | ⟨b, _ | ⟨c, r⟩⟩⟩
  · simp [are]
  · simp [are]
  · rw [h] at h2; exact absurd rfl h2
  · simp [are]
theorem or_and (p q o : Bool) : (p && o || q && o) = ((p || q) && o) := by cases p <;> cases q <;> cases o <;> rfl
theorem bg_ok (a : V) : (DD a || (EE a || empV a)) = (isBg a && a.ok) := by
  unfold DD EE isBg isEO
  rw [empV_ok, or_and, or_and]
theorem eo_ok (a : V) : (EE a || empV a) = (isEO a && a.ok) := by
  unfold EE isEO
  rw [empV_ok, or_and]
theorem ss_29 {v a b c d : V} (hk : v.k = 29) (hl : v.l = [a, b, c, d]) : SS v = (fields (ctch3 v) v && ((DD a || (EE a || empV a)) && ((EE b || empV b) && ((EE c || empV c) && BB d)))) := by
  rw [SS_k hk (by decide), ok_cut v (by omega), kids_29 hk, hl, bg_ok, eo_ok, eo_ok]
  simp only [are, V.oks, BB]
  cases isBg a <;> cases isEO b <;> cases isEO c <;> cases isK 25 d <;> cases a.ok <;> cases b.ok <;> cases c.ok <;> cases d.ok <;> rfl
theorem ss_29n {v : V} (hk : v.k = 29) (h2 : ¬ v.l.length = 4) : SS v = (fields (ctch3 v) v && false) := by
  rw [SS_k hk (by decide), ok_cut v (by omega), kids_29 hk]
  rcases h : v.l with _ | ⟨a, _ | ⟨b, _ | ⟨c, _ | ⟨d, _ | ⟨e, r⟩⟩⟩⟩⟩
  · simp [are]
  · simp [are]
  · simp [are]
  · simp [are]
  · rw [h] at h2; exact absurd rfl h2
  · simp [are]
theorem tg_no {a : V} (h : a.k = 22) : isTg a = false := by
  unfold isTg
  rw [decide_eq_false]
  omega
theorem tk_one {a x0 : V} (h : a.k = 22) (hal : a.l = [x0]) : isTk a = x0.l.isEmpty := by
  unfold isTk
  rw [tg_no h, isK_of h, hal]
  rfl
theorem tk_none {a : V} (h : a.k = 22) (hal : ¬ a.l.length = 1) : isTk a = false := by
  unfold isTk
  rw [tg_no h, isK_of h]
  rcases hl : a.l with _ | ⟨x, _ | ⟨y, r⟩⟩
  · rfl
  · rw [hl] at hal; exact absurd rfl hal
  · rfl
theorem tk_no {a : V} (h : ¬ a.k = 22) : isTk a = isTg a := by
  unfold isTk
  rw [isK_no h, Bool.false_and, Bool.or_false]
theorem tg_ee (a : V) : (isTg a && EE a) = (isTg a && a.ok) := by
  unfold EE
  cases h : isTg a
  · rfl
  · rw [tg_e h]
    rfl
theorem ss_30a1 {v a b c : V} (hk : v.k = 30) (hl : v.l = [a, b, c]) (ha : a.k = 22) (hal : ¬ a.l.length = 1) : SS v = (fields (ctch3 v) v && (EE b && (BB c && (DD a && false)))) := by
  rw [SS_k hk (by decide), ok_cut v (by omega), kids_30 hk, hl]
  have : isTk a = false := tk_none ha hal
  simp only [are, this]
  simp
theorem ss_30a2 {v a b c x0 : V} (hk : v.k = 30) (hl : v.l = [a, b, c]) (ha : a.k = 22) (hal : a.l = [x0]) : SS v = (fields (ctch3 v) v && (EE b && (BB c && (DD a && ((x0.l.length : Int) == 0))))) := by
  rw [SS_k hk (by decide), ok_cut v (by omega), kids_30 hk, hl]
  have h1 : isTk a = ((x0.l.length : Int) == 0) := by
    rw [tk_one ha hal]
    cases x0.l
    · rfl
    · rename_i p r
      show false = _
      symm
      rw [beq_eq_false_iff_ne, List.length_cons]
      omega
  simp only [are, V.oks, h1, EE, BB, DD, isK_of ha]
  cases ((x0.l.length : Int) == 0) <;> cases isE b <;> cases isK 25 c <;> cases a.ok <;> cases b.ok <;> cases c.ok <;> rfl
theorem ss_30b {v a b c : V} (hk : v.k = 30) (hl : v.l = [a, b, c]) (ha : ¬ a.k = 22) : SS v = (fields (ctch3 v) v && (EE b && (BB c && (isTg a && EE a)))) := by
  rw [SS_k hk (by decide), ok_cut v (by omega), kids_30 hk, hl, tg_ee]
  simp only [are, V.oks, tk_no ha, EE, BB]
  cases isTg a <;> cases isE b <;> cases isK 25 c <;> cases a.ok <;> cases b.ok <;> cases c.ok <;> rfl
theorem ss_30n {v : V} (hk : v.k = 30) (h2 : ¬ v.l.length = 3) : SS v = (fields (ctch3 v) v && false) := by
  rw [SS_k hk (by decide), ok_cut v (by omega), kids_30 hk]
  rcases h : v.l with _ | ⟨a, _ | ⟨b, _ | ⟨c, _ | ⟨d, r⟩⟩⟩⟩
  · simp [are]
  · simp [are]
  · simp [are]
  · rw [h] at h2; exact absurd rfl h2
  · simp [are]
theorem ss_35 {v a b c : V} (hk : v.k = 35) (hl : v.l = [a, b, c]) : SS v = (fields (ctch3 v) v && (BB a && ((BB b || empV b) && ((BB c || empV c) && !(empV b && empV c))))) := by
  have hc : ctch3 v = ctch v := by
    unfold ctch3
    rw [hl]
    rfl
  rw [SS_k hk (by decide), ok_eq]
  unfold right
  rw [hc, Bool.and_assoc, kids_35 hk, hl, empV_ok, empV_ok]
  have hb := isK_two (v := b) (j := 25) (k := 42) (by decide)
  have hc' := isK_two (v := c) (j := 25) (k := 42) (by decide)
  simp only [are, V.oks, BB, isBO]
  revert hb hc'
  cases isK 25 b <;> cases isK 42 b <;> cases isK 25 c <;> cases isK 42 c <;> cases isK 25 a <;> cases a.ok <;> cases b.ok <;> cases c.ok <;> intro hb hc' <;> first | rfl | exact absurd hb (by decide) | exact absurd hc' (by decide)
theorem ss_35n {v : V} (hk : v.k = 35) (h2 : ¬ v.l.length = 3) : SS v = (fields (ctch3 v) v && false) := by
  rw [SS_k hk (by decide), ok_eq]
  unfold right
  rw [kids_35 hk, Bool.and_false]
  rcases h : v.l with _ | ⟨a, _ | ⟨b, _ | ⟨c, _ | ⟨d, r⟩⟩⟩⟩
  · simp [are]
  · simp [are]
  · simp [are]
  · rw [h] at h2; exact absurd rfl h2
  · simp [are]
/-! cases -/
theorem case_ok (u : V) : (isK 37 u && u.ok) = caseV EE (fun u => u.l.tail.all SS) u := by
  unfold caseV
  by_cases h : u.k = 37
  · rw [isK_of h, ok_cut u (by omega), kids_37 h]
    unfold hdV
    show _ = (true && (fields (ctch3 u) u && ((match u.l with | x :: _ => empV x || EE x | [] => false) && u.l.tail.all SS)))
    rcases u.l with _ | ⟨a, r⟩
    · rfl
    · simp only [V.oks, List.tail_cons]
      have hS : (r.all SS) = (r.all isIn && V.oks r) := (all_oks isIn r).symm
      have hE : (empV a || EE a) = (isEO a && a.ok) := by rw [← eo_ok, Bool.or_comm]
      rw [hS, hE]
      cases isEO a <;> cases a.ok <;> cases r.all isIn <;> cases V.oks r <;> rfl
  · rw [isK_no h]
    rfl
theorem df_ok {u : V} (h : (isK 37 u && u.ok) = true) : dfV u = isDf u := by
  rw [Bool.and_eq_true] at h
  have h2 := h.2
  rw [ok_eq, Bool.and_eq_true] at h2
  unfold dfV isDf
  rcases hl : u.l with _ | ⟨a, r⟩
  · rfl
  · rw [hl, V.oks, Bool.and_eq_true] at h2
    simp only
    rw [empV_ok, h2.2.1, Bool.and_true]
theorem count_ok : ∀ r : List V, (r.all fun u => isK 37 u && u.ok) = true → r.countP dfV = r.countP isDf
  | [], _ => rfl
  | a :: r, h => by
    rw [List.all_cons, Bool.and_eq_true] at h
    rw [List.countP_cons, List.countP_cons, count_ok r h.2, df_ok h.1]
theorem ss_36 {v a : V} {r : List V} (hk : v.k = 36) (hl : v.l = a :: r) : SS v = (fields (ctch3 v) v && (EE a && (r.all (caseV EE fun u => u.l.tail.all SS) && decide (r.countP dfV ≤ 1)))) := by
  rw [SS_k hk (by decide), ok_cut v (by omega), kids_36 hk, hl]
  simp only [V.oks, EE]
  rw [← funext case_ok]
  cases hq : r.all fun u => isK 37 u && u.ok
  · rw [← all_oks] at hq
    revert hq
    cases r.all (isK 37) <;> cases V.oks r <;> cases isE a <;> cases a.ok <;> cases decide (r.countP isDf ≤ 1) <;> intro hq <;> first | rfl | cases hq
  · rw [count_ok r hq]
    rw [← all_oks] at hq
    rw [Bool.and_eq_true] at hq
    rw [hq.1, hq.2]
    cases isE a <;> cases a.ok <;> cases decide (r.countP isDf ≤ 1) <;> rfl
theorem ss_36n {v : V} (hk : v.k = 36) (hl : v.l = []) : SS v = (fields (ctch3 v) v && false) := by
  rw [SS_k hk (by decide), ok_cut v (by omega), kids_36 hk, hl, Bool.false_and]
theorem ff_39 {v : V} (hk : v.k = 39) : FF v = (true && (fields (ctch3 v) v && v.l.all FF)) := by
  rw [FF_39 hk, ok_cut v (by omega), kids_39 hk, all_oks]
  rfl
end Go.Proofs.Ytgehgccgologpaa.R
