/-
 Units' keys as strings; U, indexKey, Clone, by contract.
 A HEAP THAT IS SMALL AND IN FORM; each call keeps it so.
-/
import Derived.Test.YtcahijpbkjplmaaGreatDoorMUD
import Derived.Test.YtcahijpbkjplmaaGreatDoorMHe
import Derived.Lib.ItoaLen
import Derived.Shelf.Strconv.Itoa4
set_option linter.unusedSimpArgs false
namespace Go.Proofs.YtcahijpbkjplmaaGreatDoor.G
open Go.RowKit Go.Proofs.YtcahijpbkjplmaaGreatDoor
def bz (u : List Nat) : ByteArray := ⟨(bs u).toArray⟩
def Un (u : List Nat) : Prop := ∀ n ∈ u, n < 65536
theorem bz_list (u : List Nat) : (bz u).data.toList = bs u := by unfold bz; simp
theorem bz_us {u : List Nat} (h : Un u) : us (bz u).data.toList = u := by rw [bz_list, us_bs u h]
theorem bz_size (u : List Nat) : (bz u).size = 2 * u.length := by rw [← size_list, bz_list, bs_length]
def Tab (w : World) : Prop := Lib.TabIs Tryz.prog w "internal/strconv.uint64pow10" .u64 Lib.pow10Tab
theorem globPow : Tryz.prog.globalNamed "internal/strconv.uint64pow10" = some 0 := by kernel_rfl
theorem Tab.lt {w : World} (h : Tab w) : 0 < w.heap.size := by
 unfold Tab Lib.TabIs World.var? at h
 rw [globPow] at h
 simp only [Option.bind_some] at h
 rcases Nat.lt_or_ge 0 w.heap.size with h' | h'
 ·exact h'
 ·rw [Array.getElem?_eq_none h'] at h; simp at h
theorem Tab.same {w w' : World} (h : Tab w) (hq : w'.heap[(0 : Nat)]? = w.heap[(0 : Nat)]?) : Tab w' := by
 unfold Tab Lib.TabIs World.var? at *
 rw [globPow] at *
 simp only [Option.bind_some] at *
 rw [hq]
 exact h
theorem Tab.below {w w' : World} (h : Tab w) (hb : Below w.heap.size w w') : Tab w' := h.same (hb.block _ h.lt)
theorem below_grow (w : World) (k : Nat) (os : Array Obj) : Below w.heap.size w (Sort.grow (w.drewN k) os) := by
 cases k with
 | zero => exact ⟨rfl, rfl, rfl, by simp [Sort.grow], fun b hb => by simp [Sort.grow, Array.getElem?_append_left hb]⟩
 | succ k => exact ⟨rfl, rfl, rfl, by simp [Sort.grow], fun b hb => by simp [Sort.grow, Array.getElem?_append_left hb]⟩
def Asc (l : Bs) : Prop := ∀ c ∈ l, c.toNat < 128
def un (l : Bs) : List Nat := l.map (·.toNat)
theorem un_un (l : Bs) : Un (un l) := fun n hn => by
 unfold un at hn
 obtain ⟨c, _, rfl⟩ := List.mem_map.1 hn
 have := c.toNat_lt
 omega
theorem ofRes_asc {l : Bs} (h : Asc l) : ofRes l = .tuple #[.string (bz (un l)), .int .i64 0] := by
 unfold ofRes
 rw [if_pos (List.all_eq_true.2 fun c hc => decide_eq_true (by have := h c hc; omega))]
 rfl
theorem asc_dec : ∀ u : Nat, Asc (Lib.decDigits u) := by
 intro u
 induction u using Nat.strongRecOn with
 | _ u ih =>
  intro c hc
  rw [Lib.decDigits] at hc
  split at hc
  ·rw [List.mem_singleton] at hc
   rw [hc, UInt8.toNat_ofNat']
   omega
  ·rcases List.mem_append.1 hc with hc | hc
   ·exact ih (u / 10) (by omega) c hc
   ·rw [List.mem_singleton] at hc
    rw [hc, UInt8.toNat_ofNat']
    omega
theorem mk_list (l : Bs) : (ByteArray.mk l.toArray).data.toList = l := by simp
theorem mk_size (l : Bs) : (ByteArray.mk l.toArray).size = l.length := by rw [← size_list, mk_list]
theorem u_any {l : Bs} (h : Asc l) (hl : l.length ≤ 16777216) (w : World) :
  Calls Tryz.prog 16 #[.string ⟨l.toArray⟩] w fun e w' => e = .returned (.string (bz (un l))) ∧ Below w.heap.size w w' := by
 have HO : Hid (∀ w, Calls Tryz.prog 50 #[.string ⟨l.toArray⟩] w fun e w' => e = .returned (.tuple #[.string (bz (un l)), .int .i64 0]) ∧ Below w.heap.size w w') := Lib.hid fun w => by
  have := refOf_any ⟨l.toArray⟩ w (by rw [mk_size]; exact hl)
  rw [mk_list, ofRes_asc h] at this
  exact this
 clear h hl
 generalize bz (un l) = t at *
 generalize ByteArray.mk l.toArray = s at *
 go_enter Tryz.func16, Tryz.ntmps16
 go_wp2_with fail
 refine (HO.out _).mono ?_
 rintro e w1 ⟨rfl, hb1⟩
 go_wp2_with fail
 go_ret
 exact ⟨rfl, hb1⟩
def ix (s : ByteArray) : Option Nat := idx (us s.data.toList)
def dx (n : Nat) : ByteArray := bz (un (Lib.decDigits n))
def LK : ByteArray := ⟨#[0, 108, 0, 101, 0, 110, 0, 103, 0, 116, 0, 104]⟩
def AR : ByteArray := ⟨#[65, 114, 114, 97, 121]⟩
theorem lk_eq : bz (un [108, 101, 110, 103, 116, 104]) = LK := by decide +kernel
theorem ulen_any (w : World) :
  Calls Tryz.prog 16 #[.string ⟨#[108, 101, 110, 103, 116, 104]⟩] w fun e w' => e = .returned (.string LK) ∧ Below w.heap.size w w' := by
 have := u_any (l := [108, 101, 110, 103, 116, 104]) (fun c hc => by simp only [List.mem_cons, List.not_mem_nil, or_false] at hc; rcases hc with rfl | rfl | rfl | rfl | rfl | rfl <;> decide) (by decide) w
 rw [lk_eq] at this
 exact this
theorem itoa_nat (n : Nat) : Lib.itoa (n : Int) = Lib.decDigits n := by
 unfold Lib.itoa
 rw [if_neg (by omega)]
 rfl
theorem dec_len (n : Nat) (hn : n ≤ 9223372036854775807) : (Lib.decDigits n).length ≤ 21 := by
 rw [← itoa_nat]
 exact Lib.itoa_length_le (n : Int) (by omega) (by omega)
theorem indexKey_any (n : Nat) (hn : n ≤ 9223372036854775807) (w : World) (hT : Tab w) :
  Calls Tryz.prog 65 #[.int .i64 (n : Int)] w fun e w' => e = .returned (.string (dx n)) ∧ Below w.heap.size w w' := by
 have HF : Hid (Calls Tryz.prog 88 #[.int .i64 (n : Int)] w fun e w' => e = .returned (.string ⟨(Lib.itoa (n : Int)).toArray⟩) ∧ Below w.heap.size w w') := Lib.hid
  ((Tryz.strconv_Itoa (n : Int) (by omega) (by omega) w hT).mono fun e w' ⟨h1, h2⟩ => ⟨h1, by obtain ⟨k, os, rfl⟩ := h2; exact below_grow w k os⟩)
 have HO : Hid (∀ w, Calls Tryz.prog 87 #[.string ⟨(Lib.itoa (n : Int)).toArray⟩] w fun e w' => e = .returned (.tuple #[.string (dx n), .int .i64 0]) ∧ Below w.heap.size w w') := Lib.hid fun w => by
  have hl := dec_len n hn
  rw [itoa_nat]
  have := of_any ⟨(Lib.decDigits n).toArray⟩ w (by rw [mk_size]; omega)
  rw [mk_list, ofRes_asc (asc_dec n)] at this
  exact this
 clear hn hT
 generalize dx n = t at *
 generalize ByteArray.mk (Lib.itoa (n : Int)).toArray = s at *
 go_enter Tryz.func65, Tryz.ntmps65
 go_wp2_with fail
 refine HF.out.mono ?_
 rintro e w1 ⟨rfl, hb1⟩
 go_wp2_with fail
 refine (HO.out _).mono ?_
 rintro e w2 ⟨rfl, hb2⟩
 go_wp2_with fail
 go_ret
 exact ⟨rfl, hb1.trans (hb2.mono hb1.size)⟩
end Go.Proofs.YtcahijpbkjplmaaGreatDoor.G
namespace Go.Proofs.YtcahijpbkjplmaaGreatDoor.G
def Sv (v : Vl) : Prop := v.s.size ≤ 16777216
def Sp (p : Pr) : Prop := p.key.size ≤ 16777216 ∧ Sv p.v
structure Og (n : Nat) (o : Ob) : Prop where
 c : o.cls.size ≤ 16777216
 s : ∀ p ∈ o.ps, Sp p
 l : o.ps.length ≤ n
 a : o.cls = AR → o.len ≤ 1000 ∧ ∀ p ∈ o.ps, ∀ y, ix p.key = some y → y < o.len
structure Gd (h : Hs) : Prop where
 ok : Ok h
 mx : h.most ≤ 100000
 nl : h.os.length ≤ h.n
 og : ∀ (i : Nat) (o : Ob), h.os[i]? = some o → Og h.n o
theorem Og.mono {n m : Nat} {o : Ob} (h : Og n o) (hm : n ≤ m) : Og m o := ⟨h.c, h.s, Nat.le_trans h.l hm, h.a⟩
theorem gd_new (m : Int) : Gd (Hs.new m) := by
 refine ⟨ok_new m, ?_, Nat.le_refl _, fun i o h => by simp [Hs.new] at h⟩
 show (min (max m 0) 100000).toNat ≤ 100000
 omega
theorem Gd.n100 {h : Hs} (g : Gd h) : h.n ≤ 100000 := Nat.le_trans g.ok.le g.mx
theorem Gd.os100 {h : Hs} (g : Gd h) : h.os.length ≤ 100000 := Nat.le_trans g.nl g.n100
theorem Gd.set {h : Hs} (g : Gd h) {i : Nat} {o o' : Ob} {m : Nat} (ok : Ok { (h.set i o') with n := m }) (_ : h.os[i]? = some o) (hm : h.n ≤ m) (ho : Og m o') : Gd { (h.set i o') with n := m } := by
 refine ⟨ok, g.mx, ?_, fun j q hq => ?_⟩
 ·show (h.os.set i o').length ≤ m
  rw [List.length_set]
  exact Nat.le_trans g.nl hm
 ·have hq : (h.os.set i o')[j]? = some q := hq
  rw [List.getElem?_set] at hq
  split at hq
  ·split at hq
   ·injection hq with hq
    rw [← hq]
    exact ho
   ·cases hq
  ·exact (g.og j q hq).mono hm
theorem Gd.set' {h : Hs} (g : Gd h) {i : Nat} {o o' : Ob} (ok : Ok (h.set i o')) (hi : h.os[i]? = some o) (ho : Og h.n o') : Gd (h.set i o') := g.set (m := h.n) ok hi (Nat.le_refl _) ho
theorem og_cutGo {n m : Nat} (hn : n ≤ 1000) : ∀ (f : Nat) (o : Ob), Og m o → o.ps.length < f → Og m (cutGo ix n f o).1
 | 0, o, _, h => by omega
 | f + 1, o, g, hf => by
  rw [cutGo]
  cases hw : worst ix n o.ps 0 none with
  | none =>
   dsimp only
   exact ⟨g.c, g.s, g.l, fun _ => ⟨hn, fun p hp y hy => worst_none ix hw p hp y hy⟩⟩
  | some z =>
   obtain ⟨k, x⟩ := z
   obtain ⟨p, hp, hx, hnx, hmax⟩ := worst_some ix hw
   have hk := get_mem_lt hp
   dsimp only
   split
   ·have e : (o.ps.eraseIdx k).length + 1 = o.ps.length := by
     rw [List.length_eraseIdx_of_lt hk]
     omega
    refine og_cutGo hn f _ ⟨g.c, fun q hq => g.s q (List.mem_of_mem_eraseIdx hq), ?_, fun hc => ⟨(g.a hc).1, fun q hq => (g.a hc).2 q (List.mem_of_mem_eraseIdx hq)⟩⟩ ?_
    ·show (o.ps.eraseIdx k).length ≤ m
     have := g.l
     omega
    ·show (o.ps.eraseIdx k).length < f
     omega
   ·refine ⟨g.c, g.s, g.l, fun hc => ⟨?_, fun q hq y hy => ?_⟩⟩
    ·have h1 := (g.a hc).1
     have h2 := (g.a hc).2 p (List.mem_of_getElem? hp) x hx
     show x + 1 ≤ 1000
     omega
    ·show y < x + 1
     rcases Nat.lt_or_ge y n with h' | h'
     ·omega
     ·have := hmax q hq y hy h'
      omega
theorem og_length {m : Nat} {o : Ob} (g : Og m o) (x : Vl) : Og m (o.length ix x).1 := by
 unfold Ob.length
 split
 ·exact g
 ·rename_i hc
  split
  ·refine og_cutGo (by omega) _ _ g (by omega)
  ·rename_i hl
   refine ⟨g.c, g.s, g.l, fun hcl => ⟨?_, fun p hp y hy => ?_⟩⟩
   ·show x.n.toNat ≤ 1000
    omega
   ·have := (g.a hcl).2 p hp y hy
    show y < x.n.toNat
    omega
theorem og_setp {m : Nat} {o : Ob} (g : Og m o) {k : Nat} {p q : Pr} (hk : o.ps[k]? = some p) (hq : q.key = p.key) (hs : Sv q.v) : Og m { o with ps := o.ps.set k q } := by
 refine ⟨g.c, fun r hr => ?_, ?_, fun hc => ⟨(g.a hc).1, fun r hr y hy => ?_⟩⟩
 ·rcases List.mem_or_eq_of_mem_set hr with h | rfl
  ·exact g.s r h
  ·exact ⟨by rw [hq]; exact (g.s p (List.mem_of_getElem? hk)).1, hs⟩
 ·show (o.ps.set k q).length ≤ m
  rw [List.length_set]
  exact g.l
 ·rcases List.mem_or_eq_of_mem_set hr with h | rfl
  ·exact (g.a hc).2 r h y hy
  ·exact (g.a hc).2 p (List.mem_of_getElem? hk) y (by rw [← hq]; exact hy)
theorem og_more {m : Nat} {o : Ob} (g : Og m o) {p : Pr} (hb : o.bar ix AR p.key = 0) (hs : Sp p) : Og (m + 1) (o.more ix AR p) := by
 refine ⟨g.c, fun r hr => ?_, ?_, fun hc => ?_⟩
 ·rcases List.mem_append.1 hr with h | h
  ·exact g.s r h
  ·rw [List.mem_singleton.1 h]
   exact hs
 ·show (o.ps ++ [p]).length ≤ m + 1
  rw [List.length_append, List.length_singleton]
  exact Nat.succ_le_succ g.l
 ·have hc : o.cls = AR := hc
  have he : o.ixA ix AR p.key = ix p.key := by
   unfold Ob.ixA
   rw [if_pos hc]
  unfold Ob.bar at hb
  show (match o.ixA ix AR p.key with | some x => max o.len (x + 1) | none => o.len) ≤ 1000 ∧ ∀ r ∈ o.ps ++ [p], ∀ y, ix r.key = some y → y < (match o.ixA ix AR p.key with | some x => max o.len (x + 1) | none => o.len)
  rw [he] at hb ⊢
  have h1 := (g.a hc).1
  cases hx : ix p.key with
  | none =>
   dsimp only
   refine ⟨h1, fun r hr y hy => ?_⟩
   rcases List.mem_append.1 hr with h | h
   ·exact (g.a hc).2 r h y hy
   ·rw [List.mem_singleton.1 h, hx] at hy
    cases hy
  | some x =>
   rw [hx] at hb
   dsimp only at hb ⊢
   have hx1 : x < 1000 := by
    rcases Nat.lt_or_ge x 1000 with h' | h'
    ·exact h'
    ·rw [if_pos h'] at hb
     split at hb <;> cases hb
   have h2 : max o.len (x + 1) ≤ 1000 := Nat.max_le.2 ⟨h1, hx1⟩
   have h3 : o.len ≤ max o.len (x + 1) := Nat.le_max_left _ _
   have h4 : x + 1 ≤ max o.len (x + 1) := Nat.le_max_right _ _
   refine ⟨h2, fun r hr y hy => ?_⟩
   rcases List.mem_append.1 hr with h | h
   ·exact Nat.lt_of_lt_of_le ((g.a hc).2 r h y hy) h3
   ·rw [List.mem_singleton.1 h, hx] at hy
    injection hy with hy
    rw [← hy]
    exact h4
theorem gd_add {h : Hs} (g : Gd h) {i : Nat} {o : Ob} {p : Pr} (ok : Ok (h.add ix AR i o p).1) (ho : h.os[i]? = some o) (hs : Sp p) : Gd (h.add ix AR i o p).1 := by
 unfold Hs.add at *
 split
 ·exact g
 ·rename_i hb
  split
  ·exact g
  ·rename_i hm
   rw [if_neg hb, if_neg hm] at ok
   exact g.set ok ho (Nat.le_succ _) (og_more (g.og i o ho) (Decidable.of_not_not hb) hs)
theorem dec_inj : ∀ (a b : Nat), Lib.decDigits a = Lib.decDigits b → a = b := by
 intro a
 induction a using Nat.strongRecOn with
 | _ a ih =>
  intro b h
  have e1 : ∀ c, (Lib.decDigits c).getLast? = some (UInt8.ofNat (48 + c % 10)) := fun c => by
   rw [Lib.decDigits]
   split
   ·rename_i hc
    rw [Nat.mod_eq_of_lt hc]
    rfl
   ·simp
  have e2 : ∀ c, (Lib.decDigits c).dropLast = if c < 10 then [] else Lib.decDigits (c / 10) := fun c => by
   rw [Lib.decDigits]
   split
   ·rfl
   ·simp
  have e3 : ∀ c, Lib.decDigits c ≠ [] := fun c hc => by
   have := e1 c
   rw [hc] at this
   cases this
  have h1 := e1 a
  rw [h, e1 b] at h1
  have h2 : (UInt8.ofNat (48 + b % 10)).toNat = (UInt8.ofNat (48 + a % 10)).toNat := by rw [Option.some.inj h1]
  rw [UInt8.toNat_ofNat', UInt8.toNat_ofNat'] at h2
  have h3 := e2 a
  rw [h, e2 b] at h3
  have ha := Nat.mod_lt a (show 0 < 10 by omega)
  have hb := Nat.mod_lt b (show 0 < 10 by omega)
  split at h3
  ·split at h3
   ·omega
   ·exact absurd h3.symm (e3 _)
  ·split at h3
   ·exact absurd h3 (e3 _)
   ·have := ih (a / 10) (by omega) (b / 10) h3.symm
    omega
theorem un_inj : ∀ {a b : Bs}, un a = un b → a = b
 | [], [], _ => rfl
 | [], _ :: _, h => by simp [un] at h
 | _ :: _, [], h => by simp [un] at h
 | x :: a, y :: b, h => by
  unfold un at h
  rw [List.map_cons, List.map_cons, List.cons.injEq] at h
  rw [UInt8.toNat_inj.1 h.1, un_inj h.2]
theorem dx_inj {a b : Nat} (h : dx a = dx b) : a = b := by
 unfold dx at h
 have h2 : us (bz (un (Lib.decDigits a))).data.toList = us (bz (un (Lib.decDigits b))).data.toList := by rw [h]
 rw [bz_us (un_un _), bz_us (un_un _)] at h2
 exact dec_inj a b (un_inj h2)
theorem hdx : ∀ i j, i < 1000 → j < 1000 → dx i = dx j → i = j := fun _ _ _ _ h => dx_inj h
theorem dx_size {n : Nat} (hn : n ≤ 9223372036854775807) : (dx n).size ≤ 16777216 := by
 unfold dx
 rw [bz_size]
 unfold un
 rw [List.length_map]
 have := dec_len n hn
 omega
structure So (o : Op) : Prop where
 k : o.key.size ≤ 16777216
 x : Sv o.x
 p : Sp o.p
 l : ∀ v ∈ o.l, Sv v
theorem gd_put {h : Hs} (g : Gd h) (v : Vl) {key : ByteArray} {x : Vl} (hk : key.size ≤ 16777216) (hx : Sv x) : Gd (h.put ix LK AR v key x).1 := by
 have ok := Ok.one g.ok (one_put ix LK AR h v key x)
 unfold Hs.put at *
 split
 ·exact g
 ·split
  ·exact g
  ·rename_i i e _ o ho
   rw [e] at ok
   simp only [ho] at ok
   split
   ·rename_i hl
    rw [if_pos hl] at ok
    split
    ·exact g
    ·rename_i hw
     rw [if_neg hw] at ok
     exact g.set' ok ho (og_length (g.og i o ho) x)
   ·rename_i hl
    rw [if_neg hl] at ok
    split
    ·rename_i k hf
     rw [hf] at ok
     dsimp only at ok
     split
     ·exact g
     ·rename_i p hp
      rw [hp] at ok
      dsimp only at ok
      split
      ·exact g
      ·rename_i hw
       rw [if_neg hw] at ok
       exact g.set' ok ho (og_setp (g.og i o ho) hp rfl hx)
    ·rename_i hf
     rw [hf] at ok
     dsimp only at ok
     split
     ·rename_i p hp
      rw [hp] at ok
      dsimp only at ok
      split
      ·exact g
      ·rename_i hw
       rw [if_neg hw] at ok
       exact gd_add g ok ho ⟨hk, hx⟩
     ·rename_i hp
      rw [hp] at ok
      exact gd_add g ok ho ⟨hk, hx⟩
theorem gd_define {h : Hs} (g : Gd h) (v : Vl) {p : Pr} (hp : Sp p) : Gd (h.define ix LK AR v p).1 := by
 have ok := Ok.one g.ok (one_define ix LK AR h v p)
 unfold Hs.define at *
 split
 ·exact g
 ·split
  ·exact g
  ·rename_i i e _ o ho
   rw [e] at ok
   simp only [ho] at ok
   split
   ·rename_i hl
    rw [if_pos hl] at ok
    split
    ·exact g
    ·rename_i hw
     rw [if_neg hw] at ok
     dsimp only at ok ⊢
     have h1 := og_length (g.og i o ho) p.v
     refine g.set' ok ho ?_
     split
     ·exact ⟨h1.c, h1.s, h1.l, h1.a⟩
     ·exact h1
   ·rename_i hl
    rw [if_neg hl] at ok
    split
    ·rename_i hf
     rw [hf] at ok
     exact gd_add g ok ho hp
    ·rename_i k hf
     rw [hf] at ok
     dsimp only at ok
     obtain ⟨q0, hq0, hkey⟩ := find_idx hf
     split
     ·exact g
     ·rename_i q hq
      rw [hq] at ok
      dsimp only at ok
      rw [hq0] at hq
      injection hq with hq
      subst hq
      split
      ·exact g
      ·rename_i hb
       rw [if_neg hb] at ok
       exact g.set' ok ho (og_setp (g.og i o ho) hq0 hkey.symm hp.2)
theorem gd_delete {h : Hs} (g : Gd h) (v : Vl) (key : ByteArray) : Gd (h.delete LK AR v key).1 := by
 have ok := Ok.one g.ok (one_delete LK AR h v key)
 unfold Hs.delete at *
 split
 ·exact g
 ·split
  ·exact g
  ·rename_i i e _ o ho
   rw [e] at ok
   simp only [ho] at ok
   split
   ·exact g
   ·rename_i hl
    rw [if_neg hl] at ok
    split
    ·exact g
    ·rename_i k hf
     rw [hf] at ok
     dsimp only at ok
     split
     ·exact g
     ·rename_i q hq
      rw [hq] at ok
      dsimp only at ok
      split
      ·exact g
      ·rename_i hb
       rw [if_neg hb] at ok
       have h1 := g.og i o ho
       exact g.set' ok ho ⟨h1.c, fun r hr => h1.s r (List.mem_of_mem_eraseIdx hr), Nat.le_trans (List.eraseIdx_sublist _ _).length_le h1.l, fun hc => ⟨(h1.a hc).1, fun r hr => (h1.a hc).2 r (List.mem_of_mem_eraseIdx hr)⟩⟩
theorem gd_close {h : Hs} (g : Gd h) (v : Vl) : Gd (h.close v).1 := by
 have ok := Ok.one g.ok (one_close h v)
 unfold Hs.close at *
 split
 ·exact g
 ·split
  ·exact g
  ·rename_i i e _ o ho
   rw [e] at ok
   simp only [ho] at ok
   have h1 := g.og i o ho
   exact g.set' ok ho ⟨h1.c, h1.s, h1.l, h1.a⟩
theorem gd_take {h : Hs} (g : Gd h) : Gd h.take.1 := by
 have ok := Ok.one g.ok (one_take h)
 unfold Hs.take at *
 split
 ·exact g
 ·rename_i hm
  rw [if_neg hm] at ok
  exact ⟨ok, g.mx, Nat.le_succ_of_le g.nl, fun i o ho => (g.og i o ho).mono (Nat.le_succ _)⟩
theorem Gd.snoc {h : Hs} (g : Gd h) {q : Ob} {m : Nat} (ok : Ok { os := h.os ++ [q], most := h.most, n := m }) (hm : h.n < m) (hq : Og m q) : Gd { os := h.os ++ [q], most := h.most, n := m } := by
 refine ⟨ok, g.mx, ?_, fun i o ho => ?_⟩
 ·show (h.os ++ [q]).length ≤ m
  rw [List.length_append, List.length_singleton]
  have := g.nl
  omega
 ·have ho : (h.os ++ [q])[i]? = some o := ho
  rcases Nat.lt_or_ge i h.os.length with hi | hi
  ·rw [List.getElem?_append_left hi] at ho
   exact (g.og i o ho).mono (Nat.le_of_lt hm)
  ·rw [List.getElem?_append_right hi] at ho
   have : o ∈ [q] := List.mem_of_getElem? ho
   rw [List.mem_singleton.1 this]
   exact hq
theorem gd_make {h : Hs} (g : Gd h) {cls : ByteArray} (p : Vl) (hc : cls.size ≤ 16777216) : Gd (h.make cls p).1 := by
 have ok := Ok.one g.ok (one_make h cls p)
 unfold Hs.make at *
 split
 ·exact g
 ·rename_i hm
  rw [if_neg hm] at ok
  exact g.snoc ok (Nat.lt_succ_self _) ⟨hc, fun p hp => by simp at hp, Nat.zero_le _, fun _ => ⟨Nat.zero_le _, fun p hp => by simp at hp⟩⟩
theorem dec_go : ∀ (n acc : Nat) (u : List Nat), idxGo acc (un (Lib.decDigits n) ++ u) = idxGo (acc * 10 ^ (Lib.decDigits n).length + n) u := by
 intro n
 induction n using Nat.strongRecOn with
 | _ n ih =>
  intro acc u
  have hd : ∀ (k acc : Nat) (u : List Nat), k < 10 → idxGo acc ((UInt8.ofNat (48 + k)).toNat :: u) = idxGo (10 * acc + k) u := fun k acc u hk => by
   have e : (UInt8.ofNat (48 + k)).toNat = 48 + k := by rw [UInt8.toNat_ofNat']; omega
   rw [e, idxGo, if_pos (by omega), show 48 + k - 48 = k from by omega]
  rw [Lib.decDigits]
  split
  ·rename_i hn
   show idxGo acc ((UInt8.ofNat (48 + n)).toNat :: u) = _
   rw [hd n acc u hn]
   congr 1
   show 10 * acc + n = acc * 10 ^ 1 + n
   omega
  ·rename_i hn
   have hm := Nat.mod_lt n (show 0 < 10 by omega)
   unfold un
   rw [List.map_append, List.append_assoc]
   have := ih (n / 10) (by omega) acc (List.map (fun x => x.toNat) [UInt8.ofNat (48 + n % 10)] ++ u)
   unfold un at this
   rw [this]
   show idxGo _ ((UInt8.ofNat (48 + n % 10)).toNat :: u) = _
   rw [hd _ _ _ hm, List.length_append, List.length_singleton, Nat.pow_succ]
   congr 1
   rw [← Nat.mul_assoc]
   omega
theorem dec_pos (n : Nat) : 0 < (Lib.decDigits n).length := by
 rw [Lib.decDigits]
 split <;> simp
theorem dec_small : ∀ (k n : Nat), n < 10 ^ (k + 1) → (Lib.decDigits n).length ≤ k + 1
 | 0, n, h => by
  rw [Lib.decDigits, dif_pos (by omega)]
  simp
 | k + 1, n, h => by
  rw [Lib.decDigits]
  split
  ·simp
  ·rw [List.length_append, List.length_singleton]
   have := dec_small k (n / 10) (by rw [Nat.pow_succ] at h; omega)
   omega
theorem dec_head : ∀ (n : Nat), 0 < n → ∃ d, (un (Lib.decDigits n))[0]? = some d ∧ d ≠ 48 := by
 intro n
 induction n using Nat.strongRecOn with
 | _ n ih =>
  intro hn
  rw [Lib.decDigits]
  split
  ·rename_i h
   refine ⟨(UInt8.ofNat (48 + n)).toNat, rfl, ?_⟩
   rw [UInt8.toNat_ofNat']
   omega
  ·rename_i h
   obtain ⟨d, h1, h2⟩ := ih (n / 10) (by omega) (by omega)
   refine ⟨d, ?_, h2⟩
   unfold un at *
   rw [List.map_append, List.getElem?_append_left]
   ·exact h1
   ·rw [List.length_map]
    exact dec_pos _
theorem ix_dx (i : Nat) (hi : i < 1000) : ix (dx i) = some i := by
 unfold ix dx
 rw [bz_us (un_un _)]
 have h1 := dec_pos i
 have h2 := dec_small 2 i hi
 have hl : (un (Lib.decDigits i)).length = (Lib.decDigits i).length := by unfold un; rw [List.length_map]
 unfold idx
 rw [if_neg]
 ·have := dec_go i 0 []
  rw [List.append_nil, Nat.zero_mul, Nat.zero_add] at this
  rw [this]
  rfl
 ·rw [hl]
  rintro (h | h | ⟨h, h'⟩)
  ·omega
  ·omega
  ·rcases Nat.eq_zero_or_pos i with rfl | hp
   ·rw [Lib.decDigits, dif_pos (by omega)] at h
    simp at h
   ·obtain ⟨d, h3, h4⟩ := dec_head i hp
    rw [List.getD_eq_getElem?_getD, h3] at h'
    exact h4 h'
theorem gd_array {h : Hs} (g : Gd h) (p : Vl) {l : List Vl} (hl : ∀ v ∈ l, Sv v) : Gd (h.array dx AR p l).1 := by
 have ok := Ok.one g.ok (one_array dx AR hdx h p l)
 unfold Hs.array at *
 split
 ·exact g
 ·rename_i hm
  rw [if_neg hm] at ok
  have hmem : ∀ q ∈ l.mapIdx (fun i x => (⟨dx i, x, true, true, true⟩ : Pr)), ∃ i x, i < l.length ∧ x ∈ l ∧ q = ⟨dx i, x, true, true, true⟩ := fun q hq => by
   obtain ⟨i, hi, rfl⟩ := List.mem_mapIdx.1 hq
   exact ⟨i, _, hi, List.getElem_mem hi, rfl⟩
  refine g.snoc ok (by omega) ⟨?_, fun q hq => ?_, ?_, fun _ => ⟨by show l.length ≤ 1000; omega, fun q hq y hy => ?_⟩⟩
  ·show (5 : Nat) ≤ 16777216
   omega
  ·obtain ⟨i, x, hi, hx, rfl⟩ := hmem q hq
   exact ⟨dx_size (by omega), hl x hx⟩
  ·show (l.mapIdx _).length ≤ _
   rw [List.length_mapIdx]
   omega
  ·obtain ⟨i, x, hi, hx, rfl⟩ := hmem q hq
   have hy : ix (dx i) = some y := hy
   rw [ix_dx i (by omega)] at hy
   injection hy with hy
   show y < l.length
   omega
theorem gd_step {h : Hs} (g : Gd h) {o : Op} (so : So o) : Gd (h.step ix dx LK AR o) := by
 unfold Hs.step
 repeat' split
 ·exact gd_make g _ so.k
 ·exact gd_array g _ so.l
 ·exact gd_put g _ so.k so.x
 ·exact gd_define g _ so.p
 ·exact gd_delete g _ _
 ·exact gd_close g _
 ·exact gd_take g
 ·exact g
theorem gd_run : ∀ (l : List Op) (h : Hs), Gd h → (∀ o ∈ l, So o) → Gd (h.run ix dx LK AR l)
 | [], _, g, _ => g
 | o :: r, _, g, so => gd_run r _ (gd_step g (so o List.mem_cons_self)) fun q hq => so q (List.mem_cons_of_mem _ hq)
end Go.Proofs.YtcahijpbkjplmaaGreatDoor.G
