/-
  Laid by wip/prune.py out of wip/octets: D E F.
-/
import Derived.Test.YtnkknlhdbhfjlaaOA
import Derived.Laws.CopyOwn
import Derived.Laws.AppendOwnNone
import Derived.Lib.AppendStr
import Derived.Lib.BufferWrite
namespace Go.Proofs.Ytnkknlhdbhfjlaa.O
open Go.RowKit

theorem bv_one (l : Bs) : ∀ u ∈ l.map bv, u.oneCell' = true := by
  intro u hu
  obtain ⟨b, _, rfl⟩ := List.mem_map.1 hu
  rfl
theorem own_below {w w' : World} {B : Nat} {e : TypeId} {size n : Nat} {v : Value} {xs : List Value} (h : w.ownsRow B e size v n xs) (hb : Below w.heap.size w w') : w'.ownsRow B e size v n xs :=
  h.kept (row := none) ⟨hb.os, hb.tape, hb.output, hb.size, fun k hk _ => hb.block k hk⟩ (by cases v.ownBlock <;> simp)
theorem add_lit (g o j : Nat) : (⟨g, o, none⟩ : Addr).add j = ⟨g, o + j, none⟩ := by unfold Addr.add; split <;> simp_all
theorem Byt.cells {w : World} {ad : Addr} {l : Bs} (h : Byt w (some ad) l) : ∀ j u, (l.map bv)[j]? = some u → w.cell? (ad.add j) = some u := by
  intro j u hj
  rw [List.getElem?_map, Option.map_eq_some_iff] at hj
  obtain ⟨b, hb, rfl⟩ := hj
  obtain ⟨hlt, rfl⟩ := List.getElem?_eq_some_iff.1 hb
  rcases h with h | ⟨g, o, hA, _, hc⟩
  · subst h; simp at hlt
  · injection hA with hA
    subst hA
    rw [add_lit]
    exact hc j hlt
/-- append of bytes that read as a list onto a row of the call's own -/
theorem app_bytes {P : Program} (w : World) {ops : Array Oper} {rest : List Oper} {o : Oper} {a : Act} {Q : Exit → Act → World → Prop} (hgd : o.guard = none) (s x : Operand) (t : TypeId)
    (ho : o.op = .call { callee := .builtin .append, args := #[s, x], argTypes := #[t, t] })
    (base : Nat) (e : TypeId) (i : TypeInfo) (z : Value) (ht : P.underlying t = some (.slice e)) (hi : P.info? e = some i) (hz : i.zero = some z)
    (hsize : i.size = 1) (hby : i.bytes = 1) (hzs : z.cells.size = 1)
    (v : Value) (n : Nat) (xs : List Value) (hs : a.eval s = v) (hown : w.ownsRow base e 1 v n xs)
    (A : Option Addr) (c : Nat) (l : Bs) (hx : a.eval x = .slice A l.length c) (hB : Byt w A l)
    (hbytes : n + l.length ≤ 140737488355328) (hbase : base ≤ w.heap.size)
    (h : ∀ v' w', w'.ownsRow base e 1 v' (n + l.length) (xs ++ l.map bv) → Below base w w' → wpList P ops Q rest (a.put o.dst v') w') : wpList P ops Q (o :: rest) a w := by
  rcases A with _ | ad
  · have hl : l = [] := by
      rcases hB with h | ⟨_, _, h, _⟩
      · exact h
      · cases h
    subst hl
    refine wpList_plain hgd fun K hK => ?_
    have hrun : (Builtin.append_ #[t, t] o.type #[v, .slice none 0 c]).run P w = .ok v w := by
      rcases hown.2 with ⟨rfl, rfl⟩ | ⟨g, cap, cur, rfl, _, _, hnc, _⟩
      · simp [Builtin.append_, run_underlying ht, sizeOf, typeInfo, hi, Builtin.lenOf, Builtin.firstCells]
      · simp [Builtin.append_, run_underlying ht, sizeOf, typeInfo, hi, Builtin.lenOf, Builtin.firstCells, hnc, storeCells]
    unfold Oper.wp
    simp [execOp, ho, resolve, invoke, builtin, hs, hx, hrun, Result.andThen]
    exact hK _ _ (h v w (by simpa using hown) (Below.refl _ _))
  · refine wpList_append_own w hgd s x t ho base e i z 1 1 ht hi hz hsize hby hzs (by decide) v n xs hs hown ad l.length c (l.map bv) hx (by simp) hB.cells (bv_one l) (by unfold maxLen; omega) (by omega) hbase ?_
    intro v' w' hown' hg _
    exact h v' w' hown' ((Below.refl base w).grown hg hbase fun k hk => (hown.lt k hk).1)
/-- append of a string's bytes -/
theorem app_str {P : Program} (w : World) {ops : Array Oper} {rest : List Oper} {o : Oper} {a : Act} {Q : Exit → Act → World → Prop} (hgd : o.guard = none) (sl x : Operand) (t u : TypeId)
    (ho : o.op = .call { callee := .builtin .append, args := #[sl, x], argTypes := #[t, u] })
    (base : Nat) (e : TypeId) (i : TypeInfo) (ht : P.underlying t = some (.slice e)) (hu : P.underlying u = some .string) (hi : P.info? e = some i) (hz : i.zero = some (.int .u8 0))
    (hsize : i.size = 1) (hby : i.bytes = 1)
    (v : Value) (n : Nat) (xs : List Value) (hs : a.eval sl = v) (hown : w.ownsRow base e 1 v n xs) (s : ByteArray) (hx : a.eval x = .string s)
    (hbytes : n + s.size ≤ 140737488355328) (hbase : base ≤ w.heap.size)
    (h : ∀ v' w', w'.ownsRow base e 1 v' (n + s.size) (xs ++ s.data.toList.map bv) → Below base w w' → wpList P ops Q rest (a.put o.dst v') w') : wpList P ops Q (o :: rest) a w := by
  refine Lib.wpList_append_own_string w hgd sl x t u ho base e i ht hu hi hz hsize hby v n xs hs hown s hx (by unfold maxLen; omega) hbytes hbase ?_
  intro v' w' hown' hg _
  exact h v' w' hown' ((Below.refl base w).grown hg hbase fun k hk => (hown.lt k hk).1)
/-- what a copy into a row of the call's own leaves -/
theorem own_copied {w : World} {base : Nat} {e : TypeId} {g n cap : Nat} {xs : List Value} {cur : Array Value} (hb : base ≤ g) (hg : w.heap[g]? = some (.cells cur e (0, 0))) (hn : n ≤ cap) (hm : cap ≤ maxLen) (hs : cur.size = cap)
    (ht : cur.toList.take n = xs) (hl : xs.length = n) (off : Nat) (cs : List Value) (hfit : off + cs.length ≤ n) :
    (w.setRow g (cur.toList.take off ++ (cs ++ cur.toList.drop (off + cs.length))).toArray).ownsRow base e 1 (.slice (some ⟨g, 0, none⟩) n cap) n (xs.take off ++ (cs ++ xs.drop (off + cs.length))) := by
  have hlen : cur.toList.length = cap := by rw [Array.length_toList, hs]
  refine ⟨?_, .inr ⟨g, cap, _, rfl, hb, setRow_heap w g cur _ e _ hg, hn, hm, ?_, ?_⟩⟩
  · simp only [List.length_append, List.length_take, List.length_drop]
    omega
  · simp only [List.size_toArray, List.length_append, List.length_take, List.length_drop, hlen]
    omega
  · rw [Nat.mul_one]
    show (cur.toList.take off ++ (cs ++ cur.toList.drop (off + cs.length))).take n = _
    rw [List.take_append, List.take_append, List.length_take, hlen, List.take_take, ← ht, List.take_take, Nat.min_eq_left (show off ≤ cap by omega), Nat.min_comm n off, Nat.min_eq_left (show off ≤ n by omega), List.take_of_length_le (show cs.length ≤ n - off by omega), List.drop_take,
      show n - off - cs.length = n - (off + cs.length) by omega]
/-- copy of bytes that read as a list into a row of the call's own -/
theorem copy_bytes {P : Program} {w : World} {ops : Array Oper} {rest : List Oper} {o : Oper} {a : Act} {Q : Exit → Act → World → Prop} (hgd : o.guard = none) (d s : Operand) (dT sT : TypeId)
    (ho : o.op = .call { callee := .builtin .copy, args := #[d, s], argTypes := #[dT, sT] }) (e : TypeId) (hu : P.underlying dT = some (.slice e)) (hsz : (P.info? e).map (·.size) = some 1)
    (base g n cap : Nat) (xs : List Value) (hown : w.ownsRow base e 1 (.slice (some ⟨g, 0, none⟩) n cap) n xs) (off : Nat)
    (dp : Option Addr) (dLen dCap : Nat) (hd : a.eval d = .slice dp dLen dCap) (hdp : 0 < dLen → dp = some ⟨g, off, none⟩)
    (A : Option Addr) (c : Nat) (l : Bs) (hs : a.eval s = .slice A l.length c) (hB : Byt w A l) (hle : l.length ≤ dLen) (hfit : off + l.length ≤ n)
    (h : ∀ w', w'.ownsRow base e 1 (.slice (some ⟨g, 0, none⟩) n cap) n (xs.take off ++ (l.map bv ++ xs.drop (off + l.length))) → w.grownBy w' (some g) → wpList P ops Q rest (a.put o.dst (goInt l.length)) w') : wpList P ops Q (o :: rest) a w := by
  rcases hown.2 with ⟨hv, _⟩ | ⟨g', cap', cur, hv, hb, hg, hnc, hcm, hcs, htake⟩
  · cases hv
  injection hv with hA _ hcap
  injection hA with hA
  injection hA with hgg
  subst hgg
  subst hcap
  by_cases h0 : l.length = 0
  · obtain rfl : l = [] := List.eq_nil_of_length_eq_zero h0
    refine wpList_copy_nothing hgd d s dT sT ho e hu hsz dp A dLen dCap 0 c hd hs (Nat.zero_min _) ?_
    exact h w (by simpa using hown) (World.grownBy.refl w _)
  · obtain ⟨g2, o2, rfl, _⟩ := hB.at_ (show 0 < l.length by omega)
    have hdp' := hdp (by omega)
    subst hdp'
    have hcl : ((l.map bv).length) = l.length := List.length_map ..
    have hcsz : cur.size = cap := by rw [hcs, Nat.mul_one]
    refine wpList_copy_own hgd d s dT sT ho e hu hsz g off dLen dCap ⟨g2, o2, none⟩ l.length c hd hs cur e hg (l.map bv) (by rw [hcl]; exact (Nat.min_eq_left hle).symm) hB.cells (by rw [hcl]; omega) (bv_one l) ?_
    rw [hcl]
    refine h _ ?_ ⟨rfl, rfl, rfl, by simp, fun k _ hk => setRow_other w g k _ (fun e => hk (by simp [e]))⟩
    have := own_copied (w := w) (base := base) (xs := xs) hb hg hnc hcm hcsz (by rw [← htake, Nat.mul_one]) (by have := hown.1; omega) off (l.map bv) (by rw [hcl]; exact hfit)
    rw [hcl] at this
    exact this
/-- copy of a string -/
theorem copy_str {P : Program} {w : World} {ops : Array Oper} {rest : List Oper} {o : Oper} {a : Act} {Q : Exit → Act → World → Prop} (hgd : o.guard = none) (d s : Operand) (dT sT : TypeId)
    (ho : o.op = .call { callee := .builtin .copy, args := #[d, s], argTypes := #[dT, sT] }) (e : TypeId) (hu : P.underlying dT = some (.slice e)) (hsz : (P.info? e).map (·.size) = some 1)
    (base g n cap : Nat) (xs : List Value) (hown : w.ownsRow base e 1 (.slice (some ⟨g, 0, none⟩) n cap) n xs) (off : Nat)
    (dp : Option Addr) (dLen dCap : Nat) (hd : a.eval d = .slice dp dLen dCap) (hdp : 0 < dLen → dp = some ⟨g, off, none⟩)
    (t : ByteArray) (hs : a.eval s = .string t) (hle : t.size ≤ dLen) (hfit : off + t.size ≤ n)
    (h : ∀ w', w'.ownsRow base e 1 (.slice (some ⟨g, 0, none⟩) n cap) n (xs.take off ++ (t.data.toList.map bv ++ xs.drop (off + t.size))) → w.grownBy w' (some g) → wpList P ops Q rest (a.put o.dst (goInt t.size)) w') : wpList P ops Q (o :: rest) a w := by
  rcases hown.2 with ⟨hv, _⟩ | ⟨g', cap', cur, hv, hb, hg, hnc, hcm, hcs, htake⟩
  · cases hv
  injection hv with hA _ hcap
  injection hA with hA
  injection hA with hgg
  subst hgg
  subst hcap
  have hl : t.data.toList.length = t.size := (Lib.size_eq t).symm
  have hcl : (t.data.toList.map bv).length = t.size := by rw [List.length_map, hl]
  have hcsz : cur.size = cap := by rw [hcs, Nat.mul_one]
  refine wpList_plain hgd fun K hK => ?_
  by_cases h0 : t.size = 0
  · have hrun := Lib.run_copy_empty_string (P := P) w dT sT o.type e dp dLen dCap t hu (by rw [hsz]; rfl) h0
    have hnil : t.data.toList = [] := List.eq_nil_of_length_eq_zero (by rw [hl, h0])
    unfold Oper.wp
    simp [execOp, ho, resolve, invoke, builtin, hd, hs, hrun, Result.andThen]
    have := h w (by rw [hnil, h0]; simpa using hown) (World.grownBy.refl w _)
    rw [h0] at this
    exact hK _ _ this
  · have hdp' := hdp (by omega)
    subst hdp'
    have hrun := Lib.run_copy_row_string (P := P) w dT sT o.type e g off dLen dCap t cur e hu hsz hg hle (by omega)
    unfold Oper.wp
    simp [execOp, ho, resolve, invoke, builtin, hd, hs, hrun, Result.andThen]
    refine hK _ _ (h _ ?_ ⟨rfl, rfl, rfl, by simp, fun k _ hk => setRow_other w g k _ (fun e => hk (by simp [e]))⟩)
    have := own_copied (w := w) (base := base) (xs := xs) hb hg hnc hcm hcsz (by rw [← htake, Nat.mul_one]) (by have := hown.1; omega) off (t.data.toList.map bv) (by rw [hcl]; exact hfit)
    rw [hcl] at this
    exact this
/-- a slice of bytes as a string -/
theorem string_of {P : Program} (w : World) (src dst e : TypeId) {A : Option Addr} {l : Bs} {c : Nat} (hs : P.underlying src = some (.slice e)) (he : P.underlying e = some (.int .u8)) (hd : P.underlying dst = some .string)
    (h : Byt w A l) : (convert src dst (.slice A l.length c)).run P w = .ok (.string ⟨l.toArray⟩) w := by
  have hnil : ∀ A' : Option Addr, (convert src dst (.slice A' 0 c)).run P w = .ok (.string ⟨#[]⟩) w := fun A' => by
    cases A' with
    | none => exact run_convert_bytes_nil w src e hs he 0 c dst hd
    | some a => exact run_convert_bytes_back w src dst e a c [] hs he hd fun j hj => by simp at hj
  rcases h with h | ⟨g, o, rfl, _, hc⟩
  · subst h
    exact hnil A
  · refine run_convert_bytes_back w src dst e _ c l hs he hd fun j hj => ?_
    rw [add_lit]
    exact hc j hj
/-- Same of bytes that are the same -/
theorem same_any (A B : Option Addr) (l : Bs) (c d : Nat) (w : World) (hA : Byt w A l) (hB : Byt w B l) :
    Calls Try.prog 11 #[.slice A l.length c, .slice B l.length d] w fun e w' => e = .returned (.bool true) ∧ w = w' := by
  have h1 := string_of (P := Try.prog) (c := c) w 27 9 5 Try.underlying27 Try.underlying5 Try.underlying9 hA
  have h2 := string_of (P := Try.prog) (c := d) w 27 9 5 Try.underlying27 Try.underlying5 Try.underlying9 hB
  generalize (⟨l.toArray⟩ : ByteArray) = x at *
  clear hA hB
  go_enter Try.func11, Try.ntmps11
  go_wp2
  go_ret
  exact ⟨rfl, rfl⟩
theorem wrap_div {n : Nat} (h : n < lim 9) : IntKind.u64.wrap ((n : Int) / 128) = ((n / 128 : Nat) : Int) := by
  rw [lim_nine] at h
  rw [IntKind.wrap_u64]
  omega
theorem byte_of_rem (n : Nat) : IntKind.u8.wrap ((n : Int) % 128 + 128) = ((UInt8.ofNat (n % 128 + 128)).toNat : Int) := by
  rw [IntKind.wrap_u8', ofNat_small (by omega)]
  omega
set_option maxRecDepth 4000 in
set_option maxHeartbeats 400000 in
theorem refNumG_any (f : Nat) : ∀ (n : Nat) (w : World), n < lim f → f ≤ 9 → Calls Try.prog 34 #[.int .u64 n] w (GivesB w (numG f n)) := by
  obtain ⟨i0, hi, hz0, hz1, hz2⟩ := info_parts info5
  induction f with
  | zero =>
    intro n w hn _
    rw [lim_zero] at hn
    have HG : Hid (numG 0 n = [UInt8.ofNat n]) := numG_small (by omega)
    have HB := Lib.hid (last_byte n (by omega))
    go_enter Try.func34, Try.ntmps34
    go_wp2
    go_ret
    refine ⟨_, rfl, ?_, (Below.refl _ _).alloc (Nat.le_refl _) _⟩
    rw [HG.out]
    have h := World.ownsRow_lit (base := w.heap.size) (e := 5) (size := 1) w #[.int .u8 n] 1 (Nat.le_refl _) (by unfold maxLen; omega) rfl
    unfold bv
    rw [List.map_singleton, HB.out]
    exact h
  | succ f ih =>
    intro n w hn hf
    by_cases hlt : n < 128
    · have HG : Hid (numG (f + 1) n = [UInt8.ofNat n]) := numG_small hlt
      have HB := Lib.hid (last_byte n hlt)
      clear hn ih
      go_enter Try.func34, Try.ntmps34
      go_wp2
      go_ret
      refine ⟨_, rfl, ?_, (Below.refl _ _).alloc (Nat.le_refl _) _⟩
      rw [HG.out]
      have h := World.ownsRow_lit (base := w.heap.size) (e := 5) (size := 1) w #[.int .u8 n] 1 (Nat.le_refl _) (by unfold maxLen; omega) rfl
      unfold bv
      rw [List.map_singleton, HB.out]
      exact h
    · have HG : Hid (numG (f + 1) n = UInt8.ofNat (n % 128 + 128) :: numG f (n / 128)) := numG_big (by omega)
      have hd : n / 128 < lim f := by rw [lim_succ] at hn; omega
      have HI : Hid (∀ w : World, Calls Try.prog 34 #[.int .u64 ((n : Int) / 128)] w (GivesB w (numG f (n / 128)))) := fun w => ih (n / 128) w hd (by omega)
      have HB := Lib.hid (byte_of_rem n)
      have hlen := (numG_length f (n / 128)).2
      have hlim : lim (f + 1) ≤ lim 9 := by
        unfold lim
        exact Nat.mul_le_mul_left _ (Nat.pow_le_pow_right (by decide) hf)
      have hw : IntKind.u64.wrap ((n : Int) / 128) = ((n / 128 : Nat) : Int) := wrap_div (Nat.lt_of_lt_of_le hn hlim)
      clear hlim
      generalize numG f (n / 128) = l at *
      clear ih hn hd
      go_enter Try.func34, Try.ntmps34
      go_wp2_with fail
      refine (HI.out _).mono ?_
      rintro e w1 ⟨v, rfl, hown, hb⟩
      obtain ⟨hk, A, c, rfl, _, hY⟩ := Byt.of_own hown
      have hrow : w1.ownsRow w.heap.size 5 1 (.slice (some ⟨w.heap.size, 0, none⟩) 1 1) 1 [.int .u8 ((n : Int) % 128 + 128)] :=
        own_below (World.ownsRow_lit (base := w.heap.size) (e := 5) (size := 1) w #[.int .u8 ((n : Int) % 128 + 128)] 1 (Nat.le_refl _) (by unfold maxLen; omega) rfl) hb
      have hb1 : Below w.heap.size w w1 := ((Below.refl _ _).alloc (Nat.le_refl _) _).trans (hb.mono (by simp))
      clear hown hb hk hw
      go_wp2_with (at_builtin; refine app_bytes _ rfl _ _ 27 (by rfl) w.heap.size 5 i0 _ Try.underlying27 hi hz0 hz1 hz2 rfl _ _ _ (by rfl) hrow A c l (by rfl) hY ?c2 hb1.size ?_)
      case c2 => omega
      intro v2 w2 hown2 hb2
      have H : Hid (w2.ownsRow w.heap.size 5 1 v2 (numG (f + 1) n).length ((numG (f + 1) n).map bv) ∧ Below w.heap.size w w2) := by
        refine ⟨?_, hb1.trans hb2⟩
        rw [HG.out, List.length_cons, List.map_cons, Nat.add_comm]
        have e : bv (UInt8.ofNat (n % 128 + 128)) = .int .u8 ((n : Int) % 128 + 128) := by
          unfold bv
          rw [ofNat_small (by omega)]
          congr 1
        rw [e]
        exact hown2
      clear hown2 hb2 hrow hb1
      go_wp2
      go_ret
      exact ⟨_, rfl, H.out.1, H.out.2⟩
theorem refNum_any (n : Nat) (w : World) (hn : n < lim 9) : Calls Try.prog 34 #[.int .u64 n] w (GivesB w (num n)) := refNumG_any 9 n w hn (Nat.le_refl _)
theorem wrap_len {n : Nat} (h : n ≤ 140737488351232) : IntKind.u64.wrap (n : Int) = (n : Int) := by
  rw [IntKind.wrap_u64]
  omega
theorem len_lim {n : Nat} (h : n ≤ 140737488351232) : n < lim 9 := by
  rw [lim_nine]
  omega
set_option maxRecDepth 4000 in
set_option maxHeartbeats 400000 in
theorem refText_any (s : ByteArray) (w : World) (hs : s.size ≤ 140737488351232) : Calls Try.prog 35 #[.string s] w (GivesB w (text s.data.toList)) := by
  obtain ⟨i0, hi, hz0, hz1, hz2⟩ := info_parts info5
  have hw := wrap_len hs
  have HN : Hid (∀ w : World, Calls Try.prog 34 #[.int .u64 s.size] w (GivesB w (num s.size))) := fun w => refNum_any s.size w (len_lim hs)
  have HT : Hid (text s.data.toList = num s.size ++ s.data.toList) := by
    rw [text, size_list]
    exact Lib.hid rfl
  have hlen := (num_length s.size).2
  have hm : s.size ≤ maxLen := by unfold maxLen; omega
  unfold maxLen at hm
  generalize num s.size = l at *
  go_enter Try.func35, Try.ntmps35
  go_wp2_with fail
  refine (HN.out _).mono ?_
  rintro e w1 ⟨v, rfl, hown, hb⟩
  clear hw HN
  go_wp2_with (at_builtin; refine app_str _ rfl _ _ 27 9 (by rfl) w.heap.size 5 i0 Try.underlying27 Try.underlying9 hi hz0 hz1 hz2 _ _ _ (by rfl) hown s (by rfl) ?c2 hb.size ?_)
  case c2 => omega
  intro v2 w2 hown2 hb2
  have H : Hid (w2.ownsRow w.heap.size 5 1 v2 (text s.data.toList).length ((text s.data.toList).map bv) ∧ Below w.heap.size w w2) := by
    refine ⟨?_, hb.trans hb2⟩
    rw [HT.out, List.length_append, List.map_append, size_list]
    exact hown2
  clear hown2 hb2 hown hb
  go_wp2
  go_ret
  exact ⟨_, rfl, H.out.1, H.out.2⟩
theorem elem25 : Try.prog.elem 27 = 5 := by kernel_rfl
theorem und25 : Try.prog.underlying 27 = some (.slice (Try.prog.elem 27)) := by rw [elem25]; exact Try.underlying27
theorem size5 (w : World) : (sizeOf (Try.prog.elem 27)).run Try.prog w = .ok 1 w := by
  obtain ⟨i0, hi, hz0, hz1, hz2⟩ := info_parts info5
  rw [elem25]
  simp [sizeOf, typeInfo, hi, hz1]
/-- the address of what is cut off ahead -/
def cutA (A : Option Addr) (c k : Nat) : Option Addr := if c = k then A else A.map (·.add k)
theorem cutA_row {g c k : Nat} (h : c ≠ k) : cutA (some ⟨g, 0, none⟩) c k = some ⟨g, k, none⟩ := by
  unfold cutA
  rw [if_neg h]
  show some (Addr.add _ k) = _
  rw [add_lit, Nat.zero_add]
theorem Byt.cut {w : World} {A : Option Addr} {l : Bs} (h : Byt w A l) {k c : Nat} (hk : k ≤ l.length) (hc : l.length ≤ c) : Byt w (cutA A c k) (l.drop k) := h.drop hk hc
/-- a slice of bytes cut ahead -/
theorem cut_law {w : World} {ops : Array Oper} {rest : List Oper} {o : Oper} {a : Act} {Q : Exit → Act → World → Prop} (hgd : o.guard = none) (x y : Operand)
    (ho : o.op = .slice 27 x (some y) none none) (A : Option Addr) (n c : Nat) (hx : a.eval x = .slice A n c) (k : Nat) (hy : a.eval y = .int .i64 k) (hk : k ≤ n)
    (h : wpList Try.prog ops Q rest (a.put o.dst (.slice (cutA A c k) (n - k) (c - k))) w) : wpList Try.prog ops Q (o :: rest) a w := by
  refine wpList_plain hgd fun K hK => ?_
  have hrun : (Instr.sliceAt 27 (.slice A n c) (some (.int .i64 k)) none none).run Try.prog w = .ok (.slice (cutA A c k) (n - k) (c - k)) w := by
    rw [run_sliceAt_slice w _ _ _ _ _ und25, run_slice_l w _ A n c und25 .i64 k (by omega) (by omega), size5]
    simp [Result.andThen, sliced, cutA]
  unfold Oper.wp
  simp [execOp, ho, hx, hy, hrun, Result.andThen]
  exact hK _ _ h
/-- a row of the call's own from a later base is one from an earlier base -/
theorem own_lower {w : World} {B B' : Nat} {e : TypeId} {size n : Nat} {v : Value} {xs : List Value} (h : w.ownsRow B e size v n xs) (hB : B' ≤ B) : w.ownsRow B' e size v n xs := by
  refine ⟨h.1, ?_⟩
  rcases h.2 with h0 | ⟨g, cap, cur, h1, h2, h3⟩
  · exact .inl h0
  · exact .inr ⟨g, cap, cur, h1, Nat.le_trans hB h2, h3⟩
theorem size_info : (Try.prog.info? 5).map (·.size) = some 1 := by kernel_rfl
set_option maxRecDepth 4000 in
set_option maxHeartbeats 400000 in
theorem text_any (s : ByteArray) (w : World) (hs : s.size ≤ 140737488351232) : Calls Try.prog 48 #[.string s] w (GivesB w (text s.data.toList)) := by
  obtain ⟨i0, hi, hz0, hz1, hz2⟩ := info_parts info5
  have hw := wrap_len hs
  have HN : Hid (∀ w : World, Calls Try.prog 47 #[.int .u64 s.size] w (GivesB w (num s.size))) := fun w => num_any s.size w (len_lim hs)
  have HT : Hid (text s.data.toList = num s.size ++ s.data.toList) := by
    rw [text, size_list]
    exact Lib.hid rfl
  have hlen := (num_length s.size).2
  generalize num s.size = l at *
  go_enter Try.func48, Try.ntmps48
  go_wp2_with fail
  refine (HN.out _).mono ?_
  rintro e w1 ⟨v, rfl, hown, hb⟩
  obtain ⟨hk, A, c, rfl, hlc, hY⟩ := Byt.of_own hown
  clear hw HN hk hown
  have hsum : IntKind.i64.wrap ((l.length : Int) + (s.size : Int)) = (l.length : Int) + (s.size : Int) := IntWalk.i64_in _ (by omega)
  go_wp2_with (at_make; refine wpList_make_full _ rfl _ _ 27 (by rfl) w1.heap.size 5 i0 _ 1 Try.underlying27 hi hz0 hz1 .i64 .i64 _ _ (l.length + s.size) (by rfl) (by rfl) ?c1 ?c1b ?c2 ?c3 (Nat.le_refl _) ?_)
  case c1 => omega
  case c1b => omega
  case c2 => rw [hz2]; omega
  case c3 => unfold maxLen; omega
  intro w2 hown2 hg2
  have hb2 : Below w1.heap.size w1 w2 := (Below.refl _ _).grown hg2 (Nat.le_refl _) (by intro k hk; cases hk)
  clear hg2 hsum
  have hzl := hown2.1
  generalize (madeCells _ _).toList = zs at *
  have HZ := Lib.hid hzl
  have hY2 := hY.below hb2
  have HL : Hid (w.heap.size ≤ w1.heap.size) := Lib.hid hb.size
  have HG : Hid (w1.heap.size ≤ w2.heap.size) := Lib.hid hb2.size
  generalize w1.heap.size = g at *
  clear hzl hY
  go_wp2_with (refine copy_bytes (rfl) (.tmp 15) (.tmp 16) 27 27 (by rfl) 5 Try.underlying27 size_info g g _ _ zs hown2 0 _ _ _ (by rfl) (fun _ => rfl) A c l (by rfl) hY2 ?d1 ?d2 ?_)
  case d1 => omega
  case d2 => omega
  intro w3 hown3 hg3
  have hb3 : Below g w1 w3 := hb2.grown hg3 HG.out fun k hk => by injection hk with hk; omega
  have HS : Hid ((zs.drop l.length).length = s.size) := by
    rw [List.length_drop, HZ.out]
    show _ = _
    omega
  have HG3 : Hid (g ≤ w3.heap.size) := Lib.hid (Nat.le_trans HG.out hg3.size)
  clear hg3 hown2 hb2 hY2
  generalize zs.drop l.length = ys at *
  have hsub : l.length + s.size - l.length = s.size := by omega
  go_wp2_with (first
    | (refine cut_law rfl (.tmp 18) (.tmp 20) (by rfl) (some ⟨g, 0, none⟩) _ _ (by rfl) l.length (by rfl) (by omega) ?_)
    | (refine copy_str rfl (.tmp 21) (.tmp 22) 27 9 (by rfl) 5 Try.underlying27 size_info g g _ _ _ hown3 l.length _ _ _ (by rfl) ?e1 s (by rfl) ?e2 ?e3 ?_))
  case e1 => intro h; exact cutA_row (by omega)
  case e2 => omega
  case e3 => omega
  intro w4 hown4 hg4
  have H : Hid (w4.ownsRow w.heap.size 5 1 (.slice (some ⟨g, 0, none⟩) (l.length + s.size) (l.length + s.size)) (text s.data.toList).length ((text s.data.toList).map bv) ∧ Below w.heap.size w w4) := by
    have hb4 : Below g w1 w4 := hb3.grown hg4 HG3.out fun k hk => by injection hk with hk; omega
    refine ⟨?_, hb.trans (hb4.mono HL.out)⟩
    rw [HT.out, List.length_append, List.map_append, size_list]
    have e : (l.map bv ++ ys).drop (l.length + s.size) = [] := List.drop_eq_nil_of_le (by rw [List.length_append, List.length_map, HS.out]; exact Nat.le_refl _)
    have := own_lower hown4 HL.out
    simpa [e] using this
  clear hown4 hg4 hown3 hb3 hb
  go_wp2
  go_ret
  exact ⟨_, rfl, H.out.1, H.out.2⟩
end Go.Proofs.Ytnkknlhdbhfjlaa.O
