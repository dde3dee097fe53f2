/-
  Rows of tokens; Cut, by contract.
-/
import Derived.Test.YtkaamaopjcaalaaDoorM
import Derived.Test.YtkaamaopjcaalaaDoorF
import Derived.Deep.Draws
namespace Go.Proofs.YtkaamaopjcaalaaDoor.T
open Go.RowKit Go.Proofs.YtkaamaopjcaalaaDoor

theorem add_lit (g o j : Nat) : (⟨g, o, none⟩ : Addr).add j = ⟨g, o + j, none⟩ := by unfold Addr.add; split <;> simp_all
/-! a row of tokens -/
def flat : List Tk → List Value
  | [] => []
  | p :: r => .int .i64 p.k :: .string ⟨p.t.toArray⟩ :: .int .i64 p.n :: .int .i64 p.a :: .bool p.f :: flat r
theorem flat_length (k : List Tk) : (flat k).length = k.length * 5 := by
  induction k with
  | nil => rfl
  | cons p r ih => simp only [flat, List.length_cons, ih]; omega
theorem flat_append (a b : List Tk) : flat (a ++ b) = flat a ++ flat b := by
  induction a with
  | nil => rfl
  | cons p r ih => simp only [List.cons_append, flat, ih]
theorem flat_at (k : List Tk) (j : Nat) (h : j < k.length) : (flat k)[j * 5]? = some (.int .i64 k[j].k) ∧ (flat k)[j * 5 + 1]? = some (.string ⟨k[j].t.toArray⟩) ∧ (flat k)[j * 5 + 2]? = some (.int .i64 k[j].n) ∧ (flat k)[j * 5 + 3]? = some (.int .i64 k[j].a) ∧ (flat k)[j * 5 + 4]? = some (.bool k[j].f) := by
  induction k generalizing j with
  | nil => simp at h
  | cons p r ih =>
    cases j with
    | zero => exact ⟨rfl, rfl, rfl, rfl, rfl⟩
    | succ j =>
      have := ih j (by simpa using h)
      rw [show (j + 1) * 5 = j * 5 + 5 by omega]
      simp only [List.getElem_cons_succ]
      exact this
/-- the five cells from place o of block g on -/
structure At5 (w : World) (g o : Nat) (p : Tk) : Prop where
  c0 : w.cell? ⟨g, o, none⟩ = some (.int .i64 p.k)
  c1 : w.cell? ⟨g, o + 1, none⟩ = some (.string ⟨p.t.toArray⟩)
  c2 : w.cell? ⟨g, o + 2, none⟩ = some (.int .i64 p.n)
  c3 : w.cell? ⟨g, o + 3, none⟩ = some (.int .i64 p.a)
  c4 : w.cell? ⟨g, o + 4, none⟩ = some (.bool p.f)
theorem At5.below {w w' : World} {g o : Nat} {p : Tk} {B : Nat} (h : At5 w g o p) (hg : g < B) (hb : Below B w w') : At5 w' g o p :=
  ⟨(hb.cell (p := ⟨g, o, none⟩) hg).trans h.c0, (hb.cell (p := ⟨g, o + 1, none⟩) hg).trans h.c1, (hb.cell (p := ⟨g, o + 2, none⟩) hg).trans h.c2, (hb.cell (p := ⟨g, o + 3, none⟩) hg).trans h.c3, (hb.cell (p := ⟨g, o + 4, none⟩) hg).trans h.c4⟩
/-- a slice of tokens that reads as k -/
def Row (w : World) (A : Option Addr) (k : List Tk) : Prop :=
  k = [] ∨ ∃ g o, A = some ⟨g, o, none⟩ ∧ g < w.heap.size ∧ ∀ j (h : j < k.length), At5 w g (o + j * 5) k[j]
theorem Row.below {w w' : World} {A : Option Addr} {k : List Tk} (h : Row w A k) (hb : Below w.heap.size w w') : Row w' A k := by
  rcases h with h | ⟨g, o, rfl, h1, h2⟩
  · exact .inl h
  · exact .inr ⟨g, o, rfl, Nat.lt_of_lt_of_le h1 hb.size, fun j hj => (h2 j hj).below h1 hb⟩
theorem Row.at_ {w : World} {A : Option Addr} {k : List Tk} (h : Row w A k) {i : Nat} (hi : i < k.length) : ∃ g o, A = some ⟨g, o, none⟩ ∧ g < w.heap.size ∧ At5 w g (o + i * 5) k[i] := by
  rcases h with h | ⟨g, o, rfl, h1, h2⟩
  · subst h; simp at hi
  · exact ⟨g, o, rfl, h1, h2 i hi⟩
theorem Row.take {w : World} {A : Option Addr} {k : List Tk} (h : Row w A k) (n : Nat) : Row w A (k.take n) := by
  rcases h with h | ⟨g, o, rfl, h1, h2⟩
  · subst h; exact .inl (by simp)
  · exact .inr ⟨g, o, rfl, h1, fun j hj => by
      rw [List.length_take] at hj
      rw [List.getElem_take]
      exact h2 j (by omega)⟩
abbrev OwnT (w : World) (B : Nat) (v : Value) (k : List Tk) : Prop := w.ownsRow B 30 5 v k.length (flat k)
theorem OwnT.nil (w : World) (B : Nat) : OwnT w B (.slice none 0 0) [] := World.ownsRow_nil _ _ _ _
theorem OwnT.open {w : World} {B : Nat} {v : Value} {k : List Tk} (h : OwnT w B v k) : ∃ A c, v = .slice A k.length c ∧ k.length ≤ c ∧ Row w A k := by
  rcases h.2 with ⟨rfl, h0⟩ | ⟨g, cap, cur, rfl, hb, hg, hc, _⟩
  · rw [h0]
    exact ⟨_, _, rfl, Nat.le_refl _, .inl (List.eq_nil_of_length_eq_zero h0)⟩
  · refine ⟨_, _, rfl, hc, .inr ⟨g, 0, rfl, (Array.getElem?_eq_some_iff.1 hg).1, fun j hj => ?_⟩⟩
    obtain ⟨h0, h1, h2, h3, h4⟩ := flat_at k j hj
    have e := fun i u hu => h.cells (g := g) rfl i u hu
    refine ⟨?_, ?_, ?_, ?_, ?_⟩
    · have := e _ _ h0
      rw [add_lit] at this
      exact this
    · have := e _ _ h1
      rw [add_lit] at this
      exact this
    · have := e _ _ h2
      rw [add_lit] at this
      exact this
    · have := e _ _ h3
      rw [add_lit] at this
      exact this
    · have := e _ _ h4
      rw [add_lit] at this
      exact this
/-- append of a token -/
theorem app_tok {w : World} {ops : Array Oper} {rest : List Oper} {o : Oper} {a : Act} {Q : Exit → Act → World → Prop} (hgd : o.guard = none) (sl x : Operand)
    (ho : o.op = .call { callee := .builtin .append, args := #[sl, x], argTypes := #[24, 24] })
    (B : Nat) (hB : B ≤ w.heap.size) (v : Value) (k : List Tk) (hs : a.eval sl = v) (h0 : OwnT w B v k) (arr : Array Value) (m : Nat) (p : Tk) (g : Nat) (hx : a.eval x = .slice (some ⟨g, 0, none⟩) m m) (hg : g = w.heap.size) (hm : m = 1) (harr : arr = #[.int .i64 p.k, .string ⟨p.t.toArray⟩, .int .i64 p.n, .int .i64 p.a, .bool p.f]) (hlim : k.length ≤ 1048576)
    (h : ∀ v' w', OwnT w' B v' (k ++ [p]) → Below B w w' → wpList Tryd.prog ops Q rest (a.put o.dst v') w') : wpList Tryd.prog ops Q (o :: rest) a (w.alloc (.cells arr 30)) := by
  obtain ⟨i0, hi, hz0, hz1, hz2⟩ := info_parts infoT
  subst hg
  subst hm
  subst harr
  have hown : OwnT (w.alloc (.cells #[.int .i64 p.k, .string ⟨p.t.toArray⟩, .int .i64 p.n, .int .i64 p.a, .bool p.f] 30)) B v k := own_below h0 (below_alloc _ _)
  refine wpList_append_own _ hgd sl x 24 ho B 30 i0 _ 5 48 Tryd.underlying24 hi hz0 hz1 hz2 rfl (by decide) v k.length (flat k) hs hown ⟨w.heap.size, 0, none⟩ 1 1 [.int .i64 p.k, .string ⟨p.t.toArray⟩, .int .i64 p.n, .int .i64 p.a, .bool p.f] hx rfl ?_ ?_ (by unfold maxLen; omega) (by omega) (by simp; omega) ?_
  · intro j u hj
    rw [add_lit, World.cell?_alloc_at _ _ _ _ rfl]
    simpa using hj
  · intro u hu
    simp only [List.mem_cons, List.not_mem_nil, or_false] at hu
    rcases hu with rfl | rfl | rfl | rfl | rfl <;> rfl
  · intro v' w' hown' hg _
    refine h v' w' ?_ (((Below.refl B w).alloc hB _).grown hg (by simp; omega) fun k' hk => (hown.lt k' hk).1)
    unfold OwnT
    rw [flat_append, List.length_append]
    exact hown'

/-! what has been cut so far -/
def Sofar (L : Bs) (T : List Tk) (p : Nat) : Prop := cutl L 0 = conL T (cutl (L.drop p) p)
theorem Sofar.start (L : Bs) : Sofar L [] 0 := by unfold Sofar; rw [conL_nil]; rfl
theorem Sofar.opened {L : Bs} {T : List Tk} {p n : Nat} (h : Sofar L T p) (hs : spc (L.drop p) = (n, false)) : cutl L 0 = .inl (p + n) := by
  unfold Sofar at h
  rw [h, cutl_open _ hs]
  rfl
theorem Sofar.ended {L : Bs} {T : List Tk} {p : Nat} (h : Sofar L T p) (hs : spc (L.drop p) = ((L.drop p).length, true)) : cutl L 0 = .inr (T ++ [endT (p + (L.drop p).length) (fresh (L.drop p) (L.drop p).length)]) := by
  unfold Sofar at h
  rw [h, cutl_end _ hs]
  rfl
theorem Sofar.bad {L : Bs} {T : List Tk} {p n : Nat} (h : Sofar L T p) (hs : spc (L.drop p) = (n, true)) (hn : n < (L.drop p).length) (ho : one ((L.drop p).drop n) = none) : cutl L 0 = .inl (p + n) := by
  unfold Sofar at h
  rw [h, cutl_bad _ hs hn ho]
  rfl
theorem Sofar.step {L : Bs} {T : List Tk} {p n k : Nat} {t : Tok} (h : Sofar L T p) (hs : spc (L.drop p) = (n, true)) (hn : n < (L.drop p).length) (ho : one ((L.drop p).drop n) = some (t, k)) : Sofar L (T ++ [mk t (p + n) (fresh (L.drop p) n)]) (p + n + k) := by
  unfold Sofar at *
  rw [h, cutl_tok _ hs hn ho, conL_con, List.drop_drop]
  congr 3
  omega
/-- what Cut answers, and leaves -/
def CutR (r : Nat ⊕ List Tk) (w : World) (e : Ending) (w' : World) : Prop := Below w.heap.size w w' ∧ match r with
  | .inl p => e = .returned (.tuple #[.slice none 0 0, .int .i64 (p : Nat), .int .i64 60])
  | .inr ts => ∃ v, e = .returned (.tuple #[v, .int .i64 0, .int .i64 0]) ∧ OwnT w' w.heap.size v ts
theorem cutR_inl {r : Nat ⊕ List Tk} {p : Nat} {w w' : World} {e : Ending} (hr : r = .inl p) (hb : Below w.heap.size w w') (he : e = .returned (.tuple #[.slice none 0 0, .int .i64 (p : Nat), .int .i64 60])) : CutR r w e w' := by
  subst hr; exact ⟨hb, he⟩
theorem cutR_inr {r : Nat ⊕ List Tk} {ts : List Tk} {w w' : World} {e : Ending} {v : Value} (hr : r = .inr ts) (hb : Below w.heap.size w w') (he : e = .returned (.tuple #[v, .int .i64 0, .int .i64 0])) (ho : OwnT w' w.heap.size v ts) : CutR r w e w' := by
  subst hr; exact ⟨hb, v, he, ho⟩
/-- the library's variables that are read -/
def Vars (w : World) : Prop := Ml w ∧ ErrAt w ∧ RngAt w
theorem Vars.below {w w' : World} (h : Vars w) (hb : Below w.heap.size w w') : Vars w' := ⟨h.1.below hb, h.2.1.below hb, h.2.2.below hb⟩
set_option maxRecDepth 8000 in
set_option maxHeartbeats 2000000 in
theorem cut_any (s : ByteArray) (w : World) (hs : s.size ≤ 4096) (hV : Vars w) :
    Calls Tryd.prog 14 #[.string s] w (CutR (cutl s.data.toList 0) w) := by
  have h1 : (s.size : Int) ≤ 4096 := by omega
  have H0 := Lib.hid (Sofar.start s.data.toList)
  have HX := Lib.hid (ext_end s)
  have HEx := Lib.hid (ext_list s)
  have HEz := Lib.hid (ext_size s)
  have HL := Lib.hid (size_list s)
  have HVw := Lib.hid fun (w' : World) (hb : Below w.heap.size w w') => hV.below hb
  clear hV
  generalize s.data.toList = L at *
  go_enter Tryd.func14, Tryd.ntmps14
  go_wp2_with fail
  go_loopw [5, 6] (fun vt va wr => ∃ (T : List Tk) (p : Nat), va = .int .i64 p ∧ p ≤ s.size ∧ T.length ≤ p ∧ OwnT wr w.heap.size vt T ∧ Hid (Sofar L T p) ∧ Below w.heap.size w wr)
    (fun _ va _ => s.size + 1 - (intOf va).toNat)
  case atStart => exact ⟨[], 0, rfl, Nat.zero_le _, Nat.zero_le _, OwnT.nil _ _, H0, Below.refl _ _⟩
  case round =>
    obtain ⟨T, p, rfl, hp, hTp, hO, hS, hbw⟩ := hrel
    have hpi : (p : Int) ≤ (s.size : Int) := by omega
    have hVr := HVw.out _ hbw
    have HSp := Lib.hid (spaceSize_any (s.extract p s.size) wr (by rw [HEz.out _ _ (Nat.le_refl _)]; omega) hVr.1)
    rw [HX.out] at HSp
    have hlen : (L.drop p).length = s.size - p := by rw [List.length_drop, HL.out]
    obtain ⟨n, c, hsp⟩ : ∃ n c, spc (L.drop p) = (n, c) := ⟨_, _, rfl⟩
    have hn := spc_le (L.drop p)
    rw [hsp, hlen] at hn
    have hn : n ≤ s.size - p := hn
    have hpn : (p : Int) + (n : Int) ≤ (s.size : Int) := by omega
    have hpp : (p : Int) ≤ (p : Int) + (n : Int) := by omega
    have HCa := Lib.hid fun w => containsAny_any (s.extract p (p + n)) w (by rw [HEz.out _ _ (by omega)]; omega)
    have hfr : (s.extract p (p + n)).data.toList.any el = fresh (L.drop p) n := by rw [HEx.out, show p + n - p = n by omega]; rfl
    rw [hfr] at HCa
    rw [hsp, spV_eq] at HSp
    obtain ⟨fb, hfb⟩ : ∃ fb, fresh (L.drop p) n = fb := ⟨_, rfl⟩
    rw [hfb] at HCa
    clear hfr
    cases c with
    | false =>
      have HR := Lib.hid (hS.out.opened hsp)
      clear hsp hlen hfb hS hn
      go_wp2_with fail
      refine HSp.out.mono ?_
      rintro e w1 ⟨rfl, hb1⟩
      go_wp2_with fail
      refine (HCa.out _).mono ?_
      rintro e w2 ⟨rfl, hb2⟩
      have hb3 := (hbw.trans (hb1.mono hbw.size))
      have hb4 := hb3.trans (hb2.mono hb3.size)
      clear hb1 hb2 hb3 hO hbw
      go_wp2_with fail
      go_ret3
      exact cutR_inl HR.out hb4 rfl
    | true =>
      have hE : ∀ w', Below w.heap.size w w' → Vars w' := HVw.out
      by_cases hend : p + n = s.size
      · have hn2 : n = (L.drop p).length := by omega
        rw [hn2] at hsp
        have hR := hS.out.ended hsp
        rw [← hn2, hfb, hend] at hR
        rw [hend] at HCa
        have HR := Lib.hid hR
        have hendi : (p : Int) + (n : Int) = (s.size : Int) := by omega
        clear hsp hlen hfb hS hn hn2 hR hE
        go_wp2_with fail
        refine HSp.out.mono ?_
        rintro e w1 ⟨rfl, hb1⟩
        go_wp2_with fail
        refine (HCa.out _).mono ?_
        rintro e w2 ⟨rfl, hb2⟩
        have hO2 := own_below (own_below hO hb1) hb2
        have hb3 := (hbw.trans (hb1.mono hbw.size))
        have hb4 := hb3.trans (hb2.mono hb3.size)
        clear hb1 hb2 hb3 hO hbw
        go_wp2_with (at_builtin; refine app_tok rfl (.tmp 43) (.tmp 45) (by rfl) w.heap.size (Nat.le_trans hb4.size (below_alloc _ _).size) _ T (by rfl) (own_below hO2 (below_alloc _ _)) _ 1 (endT s.size fb) _ (by rfl) ?g1 rfl ?a1 ?c1 ?_)
        case g1 => simp
        case a1 => rfl
        case c1 => omega
        intro v3 w3 hO3 hb3
        have hb5 := (hb4.trans ((below_alloc w2 _).mono hb4.size)).trans hb3
        clear hO2 hb3
        go_wp2_with fail
        go_ret3
        exact cutR_inr HR.out hb5 rfl hO3
      · have hpl : p + n < s.size := by omega
        have hpli : (p : Int) + (n : Int) < (s.size : Int) := by omega
        have hne : ((p : Int) + (n : Int) == (s.size : Int)) = false := by rw [beq_eq_false_iff_ne]; omega
        obtain ⟨x, r, hxr⟩ := drop_cons (l := L) (k := p + n) (by rw [HL.out]; exact hpl)
        have hdd : (L.drop p).drop n = x :: r := by rw [List.drop_drop]; exact hxr
        have hts : (s.extract (p + n) s.size).data.toList = x :: r := by rw [HX.out]; exact hxr
        have HT := Lib.hid fun w' (hb : Below w.heap.size w w') => readToken_any (s.extract (p + n) s.size) w' (by rw [HEz.out _ _ (Nat.le_refl _)]; omega) (HVw.out w' hb).2.1 (HVw.out w' hb).2.2 x r hts
        have hnl : n < (L.drop p).length := by omega
        cases ho : one (x :: r) with
        | none =>
          rw [ho] at HT
          have HR := Lib.hid (hS.out.bad hsp hnl (by rw [hdd]; exact ho))
          unfold tkV tV t0 at HT
          clear hsp hlen hfb hS hn hE ho hdd hts hxr hnl hend hpl
          go_wp2_with fail
          refine HSp.out.mono ?_
          rintro e w1 ⟨rfl, hb1⟩
          go_wp2_with fail
          refine (HCa.out _).mono ?_
          rintro e w2 ⟨rfl, hb2⟩
          have hb3 := (hbw.trans (hb1.mono hbw.size))
          have hb4 := hb3.trans (hb2.mono hb3.size)
          clear hb1 hb2 hb3 hO hbw
          go_wp2_with fail
          refine (HT.out _ hb4).mono ?_
          rintro e w3 ⟨rfl, hb3⟩
          have hb5 := hb4.trans (hb3.mono hb4.size)
          clear hb3 hb4
          go_wp2_with fail
          go_ret3
          exact cutR_inl HR.out (hb5.trans ((below_alloc _ _).mono hb5.size)) rfl
        | some y =>
          obtain ⟨t, k⟩ := y
          rw [ho] at HT
          have hf := one_form ho
          have HR := Lib.hid (hS.out.step hsp hnl (by rw [hdd]; exact ho))
          rw [hfb] at HR
          have hk0 : ((k : Int) == 0) = false := by rw [beq_eq_false_iff_ne]; omega
          have hkl : p + n + k ≤ s.size := by
            have : (x :: r).length = s.size - (p + n) := by rw [← hxr, List.length_drop, HL.out]
            omega
          have hkpos : 0 < k := hf.1
          unfold tkV tV at HT
          clear hsp hlen hfb hS hn hE ho hdd hts hxr hnl hend hpl hf
          go_wp2_with fail
          refine HSp.out.mono ?_
          rintro e w1 ⟨rfl, hb1⟩
          go_wp2_with fail
          refine (HCa.out _).mono ?_
          rintro e w2 ⟨rfl, hb2⟩
          have hO2 := own_below (own_below hO hb1) hb2
          have hb3 := (hbw.trans (hb1.mono hbw.size))
          have hb4 := hb3.trans (hb2.mono hb3.size)
          clear hb1 hb2 hb3 hO hbw
          go_wp2_with fail
          refine (HT.out _ hb4).mono ?_
          rintro e w3 ⟨rfl, hb3⟩
          have hO3 := own_below hO2 hb3
          have hb5 := hb4.trans (hb3.mono hb4.size)
          clear hb3 hb4 hO2
          go_wp2_with (at_builtin; refine app_tok rfl (.tmp 61) (.tmp 63) (by rfl) w.heap.size (Nat.le_trans hb5.size (below_alloc _ _).size) _ T (by rfl) (own_below hO3 (below_alloc _ _)) _ 1 (mk t (p + n) fb) _ (by rfl) ?g1 rfl ?a1 ?c1 ?_)
          case g1 => simp
          case a1 => rfl
          case c1 => omega
          intro v4 w4 hO4 hb6
          have hb7 := (hb5.trans ((below_alloc w3 _).mono hb5.size)).trans hb6
          have HO4 := Lib.hid hO4
          clear hO3 hb5 hb6 hO4
          go_wp2_with fail
          go_roundw
          case rel => exact ⟨_, p + n + k, by go_num, hkl, by simp; omega, HO4.out, HR, hb7⟩
          case measure => simp [intOf]; omega
theorem cut_long (s : ByteArray) (w : World) (hs : 4096 < s.size) :
    Calls Tryd.prog 14 #[.string s] w fun e w' => e = .returned (.tuple #[.slice none 0 0, .int .i64 0, .int .i64 2]) ∧ w = w' := by
  have h1 : 4096 < (s.size : Int) := by omega
  go_enter Tryd.func14, Tryd.ntmps14
  go_wp2_with fail
  go_ret3
  exact ⟨rfl, rfl⟩
end Go.Proofs.YtkaamaopjcaalaaDoor.T
