/-
 A HEAP OF OBJECTS IN PLAIN LEAN: what it is, and what each call answers and leaves. No Go in sight.
 ix: which keys are indexes; LK: the key 'length'; AR: the class of Arrays.
 WHAT MAY BECOME OF AN OBJECT, and what never does.
 WHAT FOLLOWS: a heap keeps its form; what may not be written stays; what an object has not itself it has from its prototype.
 THE LAWS' OWN WORDS in the plain heap: what is defined stays, what is closed gets nothing, cells; where a key stands.
 WHAT IS LEFT OF AN ARRAY THAT IS CUT, told at once.
-/
import Derived.Test.YtcahijpbkjplmaaGreatDoorProg
set_option linter.unusedSimpArgs false
namespace Go.Proofs.YtcahijpbkjplmaaGreatDoor.G
structure Vl where
 (k n : Int)
 s : ByteArray
 deriving DecidableEq
structure Pr where
 key : ByteArray
 v : Vl
 (w e f : Bool)
 deriving DecidableEq
structure Ob where
 cls : ByteArray
 proto : Option Nat
 ps : List Pr
 closed : Bool
 len : Nat
 lw : Bool
structure Hs where
 os : List Ob
 (most n : Nat)
def nil : ByteArray := ⟨#[]⟩
def vundef : Vl := ⟨0, 0, nil⟩
def null : Vl := ⟨1, 0, nil⟩
def num (n : Int) : Vl := ⟨3, n, nil⟩
def ref (i : Nat) : Vl := ⟨7, (i : Int) + 1, nil⟩
def refO : Option Nat → Vl
 | none => null
 | some i => ref i
def Hs.new (most : Int) : Hs := ⟨[], (min (max most 0) 100000).toNat, 0⟩
def Hs.at (h : Hs) (v : Vl) : Option Nat := if v.k = 7 ∧ v.s = nil ∧ 1 ≤ v.n ∧ v.n ≤ h.os.length then some (v.n - 1).toNat else none
def Hs.set (h : Hs) (i : Nat) (o : Ob) : Hs := { h with os := h.os.set i o }
def Hs.take (h : Hs) : Hs × Bool := if h.most ≤ h.n then (h, false) else ({ h with n := h.n + 1 }, true)
def Hs.make (h : Hs) (cls : ByteArray) (p : Vl) : Hs × Option Nat :=
 if h.most ≤ h.n then (h, none) else ({ os := h.os ++ [⟨cls, h.at p, [], false, 0, true⟩], most := h.most, n := h.n + 1 }, some h.os.length)
section
variable (ix : ByteArray → Option Nat) (dx : Nat → ByteArray) (LK AR : ByteArray)
def Hs.array (h : Hs) (p : Vl) (l : List Vl) : Hs × Option Nat :=
 if 1000 < l.length ∨ h.most < h.n + (l.length + 1) then (h, none)
 else ({ os := h.os ++ [⟨AR, h.at p, l.mapIdx (fun i x => ⟨dx i, x, true, true, true⟩), false, l.length, true⟩], most := h.most, n := h.n + (l.length + 1) }, some h.os.length)
def Ob.isLen (o : Ob) (key : ByteArray) : Bool := decide (o.cls = AR) && decide (key = LK)
def Ob.lenP (o : Ob) : Pr := ⟨LK, num o.len, o.lw, false, false⟩
def has (key : ByteArray) (p : Pr) : Bool := decide (p.key = key)
def Ob.own (o : Ob) (key : ByteArray) : Option Pr := if o.isLen LK AR key then some (o.lenP LK) else o.ps.find? (has key)
def up (os : List Ob) : Nat → Option Nat → List Nat
 | 0, _ => []
 | _, none => []
 | f + 1, some i => match os[i]? with
  | none => []
  | some o => i :: up os f o.proto
def Hs.chain (h : Hs) (i : Option Nat) : List Nat := up h.os h.os.length i
def Hs.ownAt (h : Hs) (key : ByteArray) (i : Nat) : Option Pr := (h.os[i]?).bind fun o => o.own LK AR key
def Hs.find (h : Hs) (i : Option Nat) (key : ByteArray) : Option Pr := (h.chain i).findSome? (h.ownAt LK AR key)
def enumP : List Pr → List ByteArray → List ByteArray × List ByteArray
 | [], met => ([], met)
 | p :: r, met => let q := enumP r (met ++ [p.key]); (if p.e && !met.contains p.key then p.key :: q.1 else q.1, q.2)
def enumO (o : Ob) (met : List ByteArray) : List ByteArray × List ByteArray :=
 let q := enumP o.ps met; (q.1, if o.cls = AR then q.2 ++ [LK] else q.2)
def enumC (os : List Ob) : List Nat → List ByteArray → List ByteArray
 | [], _ => []
 | i :: r, met => match os[i]? with
  | none => []
  | some o => let q := enumO LK AR o met; q.1 ++ enumC os r q.2
def Hs.enum (h : Hs) (i : Option Nat) : List ByteArray := enumC LK AR h.os (h.chain i) []
def worst (n : Nat) : List Pr → Nat → Option (Nat × Nat) → Option (Nat × Nat)
 | [], _, b => b
 | p :: r, k, b => worst n r (k + 1) (match ix p.key with
  | some x => if n ≤ x ∧ b.all (fun y => decide (y.2 < x)) = true then some (k, x) else b
  | none => b)
def cutGo (n : Nat) : Nat → Ob → Ob × Int
 | 0, o => (o, 0)
 | f + 1, o => match worst ix n o.ps 0 none with
  | none => ({ o with len := n }, 0)
  | some (k, x) => if ((o.ps[k]?).map (·.f)).getD true then cutGo n f { o with ps := o.ps.eraseIdx k } else ({ o with len := x + 1 }, 110)
def Ob.cut (o : Ob) (n : Nat) : Ob × Int := cutGo ix n (o.ps.length + 1) o
def Ob.length (o : Ob) (x : Vl) : Ob × Int :=
 if x.k ≠ 3 ∨ x.n < 0 ∨ 1000 < x.n then (o, 100) else if x.n < o.len then o.cut ix x.n.toNat else ({ o with len := x.n.toNat }, 0)
def Ob.ixA (o : Ob) (key : ByteArray) : Option Nat := if o.cls = AR then ix key else none
def Ob.bar (o : Ob) (key : ByteArray) : Int :=
 if o.closed then 110 else match o.ixA ix AR key with
  | some x => if 1000 ≤ x then 100 else if o.len ≤ x ∧ o.lw = false then 110 else 0
  | none => 0
def Ob.more (o : Ob) (p : Pr) : Ob := { o with ps := o.ps ++ [p], len := match o.ixA ix AR p.key with
 | some x => max o.len (x + 1)
 | none => o.len }
def Hs.add (h : Hs) (i : Nat) (o : Ob) (p : Pr) : Hs × Int :=
 if o.bar ix AR p.key ≠ 0 then (h, o.bar ix AR p.key) else if h.most ≤ h.n then (h, 111) else ({ (h.set i (o.more ix AR p)) with n := h.n + 1 }, 0)
def Hs.put (h : Hs) (v : Vl) (key : ByteArray) (x : Vl) : Hs × Int := match h.at v with
 | none => (h, 110)
 | some i => match h.os[i]? with
  | none => (h, 110)
  | some o =>
   if o.isLen LK AR key then (if o.lw = false then (h, 110) else let q := o.length ix x; (h.set i q.1, q.2))
   else match o.ps.findIdx? (has key) with
    | some k => match o.ps[k]? with
     | none => (h, 110)
     | some p => if p.w = false then (h, 110) else (h.set i { o with ps := o.ps.set k { p with v := x } }, 0)
    | none => match h.find LK AR o.proto key with
     | some p => if p.w = false then (h, 110) else h.add ix AR i o ⟨key, x, true, true, true⟩
     | none => h.add ix AR i o ⟨key, x, true, true, true⟩
def Hs.define (h : Hs) (v : Vl) (p : Pr) : Hs × Int := match h.at v with
 | none => (h, 110)
 | some i => match h.os[i]? with
  | none => (h, 110)
  | some o =>
   if o.isLen LK AR p.key then
    (if p.e = true ∨ p.f = true ∨ (o.lw = false ∧ (p.w = true ∨ p.v ≠ num o.len)) then (h, 110)
    else let q := o.length ix p.v; (h.set i (if q.2 = 0 then { q.1 with lw := p.w } else q.1), q.2))
   else match o.ps.findIdx? (has p.key) with
    | none => h.add ix AR i o p
    | some k => match o.ps[k]? with
     | none => (h, 110)
     | some q => if q.f = false ∧ (p.f = true ∨ p.e ≠ q.e ∨ (q.w = false ∧ (p.w = true ∨ p.v ≠ q.v))) then (h, 110) else (h.set i { o with ps := o.ps.set k p }, 0)
def Hs.delete (h : Hs) (v : Vl) (key : ByteArray) : Hs × Int := match h.at v with
 | none => (h, 110)
 | some i => match h.os[i]? with
  | none => (h, 110)
  | some o =>
   if o.isLen LK AR key then (h, 110)
   else match o.ps.findIdx? (has key) with
    | none => (h, 0)
    | some k => match o.ps[k]? with
     | none => (h, 110)
     | some q => if q.f = false then (h, 110) else (h.set i { o with ps := o.ps.eraseIdx k }, 0)
def Hs.close (h : Hs) (v : Vl) : Hs × Bool := match h.at v with
 | none => (h, false)
 | some i => match h.os[i]? with
  | none => (h, false)
  | some o => (h.set i { o with closed := true }, true)
structure Op where
 d : Int
 (v x : Vl)
 key : ByteArray
 p : Pr
 l : List Vl
def Hs.step (h : Hs) (o : Op) : Hs :=
 if o.d = 0 then (h.make o.key o.v).1 else if o.d = 1 then (h.array dx AR o.v o.l).1 else if o.d = 2 then (h.put ix LK AR o.v o.key o.x).1
 else if o.d = 3 then (h.define ix LK AR o.v o.p).1 else if o.d = 4 then (h.delete LK AR o.v o.key).1 else if o.d = 7 then (h.close o.v).1 else if o.d = 9 then h.take.1 else h
def Hs.run (h : Hs) (l : List Op) : Hs := l.foldl (Hs.step ix dx LK AR) h
end
section
variable (ix : ByteArray → Option Nat) (dx : Nat → ByteArray) (LK AR : ByteArray)
inductive Ch : Ob → Ob → Prop
 | same (o : Ob) : Ch o o
 | trans {a b c : Ob} : Ch a b → Ch b c → Ch a c
 | len (o : Ob) (n : Nat) : Ch o { o with len := n }
 | lw (o : Ob) (b : Bool) : Ch o { o with lw := b }
 | close (o : Ob) : Ch o { o with closed := true }
 | put (o : Ob) (k : Nat) (p : Pr) (x : Vl) : o.ps[k]? = some p → p.w = true → Ch o { o with ps := o.ps.set k { p with v := x } }
 | defn (o : Ob) (k : Nat) (q p : Pr) : o.ps[k]? = some q → q.key = p.key → ¬ (q.f = false ∧ (p.f = true ∨ p.e ≠ q.e ∨ (q.w = false ∧ (p.w = true ∨ p.v ≠ q.v)))) → Ch o { o with ps := o.ps.set k p }
 | add (o : Ob) (p : Pr) : o.closed = false → o.ps.findIdx? (has p.key) = none → Ch o { o with ps := o.ps ++ [p] }
 | del (o : Ob) (k : Nat) (q : Pr) : o.ps[k]? = some q → q.f = true → Ch o { o with ps := o.ps.eraseIdx k }
theorem ch_cutGo (n : Nat) : ∀ (f : Nat) (o : Ob), Ch o (cutGo ix n f o).1
 | 0, o => .same o
 | f + 1, o => by
  rw [cutGo]
  split
  ·exact .len o n
  ·rename_i k x h
   cases hp : o.ps[k]? with
   | none =>
    simp only [Option.map_none, Option.getD_none, if_pos]
    rw [List.eraseIdx_of_length_le (List.getElem?_eq_none_iff.1 hp)]
    exact ch_cutGo n f o
   | some p =>
    simp only [Option.map_some, Option.getD_some]
    by_cases hf : p.f = true
    ·rw [if_pos hf]
     exact .trans (.del o k p hp hf) (ch_cutGo n f _)
    ·rw [if_neg hf]
     exact .len o (x + 1)
theorem ch_length (o : Ob) (x : Vl) : Ch o (o.length ix x).1 := by
 unfold Ob.length
 split
 ·exact .same o
 ·split
  ·exact ch_cutGo ix _ _ o
  ·exact .len o _
theorem find_idx {ps : List Pr} {key : ByteArray} {k : Nat} (h : ps.findIdx? (has key) = some k) : ∃ p, ps[k]? = some p ∧ p.key = key := by
 rw [List.findIdx?_eq_some_iff_getElem] at h
 obtain ⟨hk, h1, _⟩ := h
 unfold has at h1
 rw [decide_eq_true_eq] at h1
 exact ⟨ps[k], List.getElem?_eq_getElem hk, h1⟩
theorem ch_more (o : Ob) (p : Pr) (hb : o.bar ix AR p.key = 0) (hf : o.ps.findIdx? (has p.key) = none) : Ch o (o.more ix AR p) := by
 have hc : o.closed = false := by
  unfold Ob.bar at hb
  cases h : o.closed
  ·rfl
  ·rw [h, if_pos rfl] at hb
   cases hb
 exact .trans (.add o p hc hf) (.len { o with ps := o.ps ++ [p] } _)
inductive One (h : Hs) : Hs → Prop
 | same : One h h
 | cells (m : Nat) : h.n ≤ m → m ≤ h.most → One h { h with n := m }
 | set (i : Nat) (o o' : Ob) (m : Nat) : h.os[i]? = some o → o'.cls = o.cls → o'.proto = o.proto → Ch o o' → h.n ≤ m → (m = h.n ∨ m ≤ h.most) → One h { (h.set i o') with n := m }
 | more (o' : Ob) (m : Nat) : (∀ p, o'.proto = some p → p < h.os.length) → (o'.ps.map (·.key)).Nodup → h.n ≤ m → m ≤ h.most → One h { os := h.os ++ [o'], most := h.most, n := m }
theorem one_set {h : Hs} {i : Nat} {o o' : Ob} (ho : h.os[i]? = some o) (hc : o'.cls = o.cls) (hp : o'.proto = o.proto) (hk : Ch o o') : One h (h.set i o') :=
 .set i o o' h.n ho hc hp hk (Nat.le_refl _) (.inl rfl)
theorem cutGo_cls (n : Nat) : ∀ (f : Nat) (o : Ob), (cutGo ix n f o).1.cls = o.cls ∧ (cutGo ix n f o).1.proto = o.proto
 | 0, o => ⟨rfl, rfl⟩
 | f + 1, o => by
  rw [cutGo]
  split
  ·exact ⟨rfl, rfl⟩
  ·split
   ·exact cutGo_cls n f _
   ·exact ⟨rfl, rfl⟩
theorem length_cls (o : Ob) (x : Vl) : (o.length ix x).1.cls = o.cls ∧ (o.length ix x).1.proto = o.proto := by
 unfold Ob.length
 split
 ·exact ⟨rfl, rfl⟩
 ·split
  ·exact cutGo_cls ix _ _ o
  ·exact ⟨rfl, rfl⟩
theorem one_add {h : Hs} {i : Nat} {o : Ob} {p : Pr} (ho : h.os[i]? = some o) (hf : o.ps.findIdx? (has p.key) = none) : One h (h.add ix AR i o p).1 := by
 unfold Hs.add
 split
 ·exact .same
 ·rename_i hb
  have hb : o.bar ix AR p.key = 0 := Decidable.of_not_not hb
  split
  ·exact .same
  ·rename_i hm
   exact .set i o (o.more ix AR p) (h.n + 1) ho rfl rfl (ch_more ix AR o p hb hf) (Nat.le_succ _) (.inr (by omega))
theorem one_put (h : Hs) (v : Vl) (key : ByteArray) (x : Vl) : One h (h.put ix LK AR v key x).1 := by
 unfold Hs.put
 split
 ·exact .same
 ·split
  ·exact .same
  ·rename_i i _ o ho
   split
   ·split
    ·exact .same
    ·exact one_set ho (length_cls ix o x).1 (length_cls ix o x).2 (ch_length ix o x)
   ·split
    ·rename_i k hk
     split
     ·exact .same
     ·rename_i p hp
      split
      ·exact .same
      ·rename_i hw
       exact one_set ho rfl rfl (.put o k p x hp (by cases hq : p.w <;> simp_all))
    ·rename_i hk
     split
     ·split
      ·exact .same
      ·exact one_add ix AR ho hk
     ·exact one_add ix AR ho hk
theorem one_define (h : Hs) (v : Vl) (p : Pr) : One h (h.define ix LK AR v p).1 := by
 unfold Hs.define
 split
 ·exact .same
 ·split
  ·exact .same
  ·rename_i i _ o ho
   split
   ·split
    ·exact .same
    ·dsimp only
     split
     ·exact one_set ho (length_cls ix o p.v).1 (length_cls ix o p.v).2 (.trans (ch_length ix o p.v) (.lw _ _))
     ·exact one_set ho (length_cls ix o p.v).1 (length_cls ix o p.v).2 (ch_length ix o p.v)
   ·split
    ·rename_i hk
     exact one_add ix AR ho hk
    ·rename_i k hk
     obtain ⟨q0, hq0, hkey⟩ := find_idx hk
     split
     ·exact .same
     ·rename_i q hq
      rw [hq0] at hq
      injection hq with hq
      subst hq
      split
      ·exact .same
      ·rename_i hbad
       exact one_set ho rfl rfl (.defn o k q0 p hq0 hkey hbad)
theorem one_delete (h : Hs) (v : Vl) (key : ByteArray) : One h (h.delete LK AR v key).1 := by
 unfold Hs.delete
 split
 ·exact .same
 ·split
  ·exact .same
  ·rename_i i _ o ho
   split
   ·exact .same
   ·split
    ·exact .same
    ·rename_i k hk
     split
     ·exact .same
     ·rename_i q hq
      split
      ·exact .same
      ·rename_i hf
       exact one_set ho rfl rfl (.del o k q hq (by cases hq : q.f <;> simp_all))
theorem one_close (h : Hs) (v : Vl) : One h (h.close v).1 := by
 unfold Hs.close
 split
 ·exact .same
 ·split
  ·exact .same
  ·rename_i i _ o ho
   exact one_set ho rfl rfl (.close o)
theorem one_take (h : Hs) : One h h.take.1 := by
 unfold Hs.take
 split
 ·exact .same
 ·exact .cells (h.n + 1) (Nat.le_succ _) (by omega)
theorem at_lt {h : Hs} {v : Vl} {i : Nat} (e : h.at v = some i) : i < h.os.length := by
 unfold Hs.at at e
 split at e
 ·injection e with e
  omega
 ·cases e
theorem one_make (h : Hs) (cls : ByteArray) (p : Vl) : One h (h.make cls p).1 := by
 unfold Hs.make
 split
 ·exact .same
 ·exact .more ⟨cls, h.at p, [], false, 0, true⟩ (h.n + 1) (fun q hq => at_lt hq) (by simp) (Nat.le_succ _) (by omega)
theorem nodup_dx (hdx : ∀ i j, i < 1000 → j < 1000 → dx i = dx j → i = j) (l : List Vl) (hl : l.length ≤ 1000) : ((l.mapIdx (fun i x => (⟨dx i, x, true, true, true⟩ : Pr))).map (·.key)).Nodup := by
 have e : (l.mapIdx (fun i x => (⟨dx i, x, true, true, true⟩ : Pr))).map (·.key) = (List.range l.length).map dx := by
  apply List.ext_getElem
  ·simp
  ·intro i h1 h2
   simp
 rw [e]
 rw [List.Nodup, List.pairwise_map]
 refine List.Pairwise.imp_of_mem (R := (· ≠ ·)) ?_ List.nodup_range
 intro i j hi hj hij he
 rw [List.mem_range] at hi hj
 exact hij (hdx i j (by omega) (by omega) he)
theorem one_array (hdx : ∀ i j, i < 1000 → j < 1000 → dx i = dx j → i = j) (h : Hs) (p : Vl) (l : List Vl) : One h (h.array dx AR p l).1 := by
 unfold Hs.array
 split
 ·exact .same
 ·rename_i hl
  exact .more ⟨AR, h.at p, l.mapIdx (fun i x => ⟨dx i, x, true, true, true⟩), false, l.length, true⟩ (h.n + (l.length + 1)) (fun q hq => at_lt hq) (nodup_dx dx hdx l (by omega)) (by omega) (by omega)
end
section
variable (ix : ByteArray → Option Nat) (dx : Nat → ByteArray) (LK AR : ByteArray)
theorem set_id {α : Type} : ∀ {l : List α} {k : Nat} {a : α}, l[k]? = some a → l.set k a = l
 | [], _, _, h => by simp at h
 | b :: r, 0, a, h => by
  simp only [List.getElem?_cons_zero, Option.some.injEq] at h
  rw [List.set_cons_zero, h]
 | b :: r, k + 1, a, h => by rw [List.set_cons_succ, set_id (by simpa using h)]
theorem erase_map {α β : Type} (f : α → β) : ∀ (l : List α) (k : Nat), (l.eraseIdx k).map f = (l.map f).eraseIdx k
 | [], _ => rfl
 | _ :: _, 0 => rfl
 | a :: r, k + 1 => by rw [List.eraseIdx_cons_succ, List.map_cons, List.map_cons, List.eraseIdx_cons_succ, erase_map f r k]
theorem ch_nodup {a b : Ob} (h : Ch a b) : (a.ps.map (·.key)).Nodup → (b.ps.map (·.key)).Nodup := by
 induction h with
 | same o => exact id
 | trans _ _ h1 h2 => exact fun h => h2 (h1 h)
 | len o n => exact id
 | lw o b => exact id
 | close o => exact id
 | put o k p x hp hw =>
  intro h
  show ((o.ps.set k { p with v := x }).map (·.key)).Nodup
  have e : (o.ps.set k { p with v := x }).map (·.key) = o.ps.map (·.key) := by
   rw [List.map_set]
   exact set_id (by rw [List.getElem?_map, hp]; rfl)
  rw [e]
  exact h
 | defn o k q p hq hkey hbad =>
  intro h
  show ((o.ps.set k p).map (·.key)).Nodup
  have e : (o.ps.set k p).map (·.key) = o.ps.map (·.key) := by
   rw [List.map_set]
   exact set_id (by rw [List.getElem?_map, hq]; exact congrArg some hkey)
  rw [e]
  exact h
 | add o p hc hf =>
  intro h
  show ((o.ps ++ [p]).map (·.key)).Nodup
  rw [List.map_append, List.nodup_append]
  refine ⟨h, by simp, fun x hx y hy => ?_⟩
  obtain ⟨r, hr, rfl⟩ := List.mem_map.1 hx
  rw [List.map_singleton, List.mem_singleton] at hy
  subst hy
  rw [List.findIdx?_eq_none_iff] at hf
  have := hf r hr
  unfold has at this
  exact of_decide_eq_false this
 | del o k q hq hf =>
  intro h
  show ((o.ps.eraseIdx k).map (·.key)).Nodup
  rw [erase_map]
  exact h.sublist (List.eraseIdx_sublist _ _)
structure Ok (h : Hs) : Prop where
 le : h.n ≤ h.most
 pw : ∀ (i : Nat) (o : Ob), h.os[i]? = some o → ∀ p, o.proto = some p → p < i
 nd : ∀ (i : Nat) (o : Ob), h.os[i]? = some o → (o.ps.map (·.key)).Nodup
theorem ok_new (m : Int) : Ok (Hs.new m) := ⟨Nat.zero_le _, fun i o h => by simp [Hs.new] at h, fun i o h => by simp [Hs.new] at h⟩
theorem get_set_inv {os : List Ob} {i j : Nat} {o q : Ob} (h : (os.set i o)[j]? = some q) : os[j]? = some q ∨ (i = j ∧ q = o) := by
 rw [List.getElem?_set] at h
 split at h
 ·rename_i e
  split at h
  ·injection h with h
   exact .inr ⟨e, h.symm⟩
  ·cases h
 ·exact .inl h
theorem get_snoc_inv {os : List Ob} {j : Nat} {o q : Ob} (h : (os ++ [o])[j]? = some q) : os[j]? = some q ∨ (j = os.length ∧ q = o) := by
 rcases Nat.lt_or_ge j os.length with hj | hj
 ·rw [List.getElem?_append_left hj] at h
  exact .inl h
 ·rw [List.getElem?_append_right hj] at h
  rcases Nat.eq_or_lt_of_le hj with e | e
  ·rw [← e, Nat.sub_self] at h
   injection h with h
   exact .inr ⟨e.symm, h.symm⟩
  ·rw [List.getElem?_eq_none (by simp; omega)] at h
   cases h
theorem Ok.one {h h' : Hs} (k : Ok h) (t : One h h') : Ok h' := by
 cases t with
 | same => exact k
 | cells m h1 h2 => exact ⟨h2, k.pw, k.nd⟩
 | set i o o' m ho hc hp hk h1 h2 =>
  have hm : m ≤ h.most := by
   have := k.le
   rcases h2 with h2 | h2 <;> omega
  refine ⟨hm, fun j q hq p e => ?_, fun j q hq => ?_⟩
  ·rcases get_set_inv hq with hq | ⟨rfl, rfl⟩
   ·exact k.pw j q hq p e
   ·exact k.pw i o ho p (hp ▸ e)
  ·rcases get_set_inv hq with hq | ⟨rfl, rfl⟩
   ·exact k.nd j q hq
   ·exact ch_nodup hk (k.nd i o ho)
 | more o' m h1 h2 h3 h4 =>
  refine ⟨h4, fun j q hq p e => ?_, fun j q hq => ?_⟩
  ·rcases get_snoc_inv hq with hq | ⟨rfl, rfl⟩
   ·exact k.pw j q hq p e
   ·exact h1 p e
  ·rcases get_snoc_inv hq with hq | ⟨rfl, rfl⟩
   ·exact k.nd j q hq
   ·exact h2
theorem up_fuel {os : List Ob} (hp : ∀ (i : Nat) (o : Ob), os[i]? = some o → ∀ p, o.proto = some p → p < i) : ∀ (i f g : Nat), i < f → i < g → up os f (some i) = up os g (some i) := by
 intro i
 induction i using Nat.strongRecOn with
 | _ i ih =>
  intro f g hf hg
  obtain ⟨f, rfl⟩ : ∃ n, f = n + 1 := ⟨f - 1, by omega⟩
  obtain ⟨g, rfl⟩ : ∃ n, g = n + 1 := ⟨g - 1, by omega⟩
  rw [up, up]
  cases ho : os[i]? with
  | none => rfl
  | some o =>
   dsimp only
   congr 1
   cases hq : o.proto with
   | none => cases f <;> cases g <;> rfl
   | some p =>
    have := hp i o ho p hq
    exact ih p this f g (by omega) (by omega)
theorem chain_some {h : Hs} (k : Ok h) {i : Nat} {o : Ob} (ho : h.os[i]? = some o) : h.chain (some i) = i :: h.chain o.proto := by
 have hi : i < h.os.length := by
  rcases Nat.lt_or_ge i h.os.length with h' | h'
  ·exact h'
  ·rw [List.getElem?_eq_none h'] at ho
   cases ho
 unfold Hs.chain
 obtain ⟨f, hf⟩ : ∃ n, h.os.length = n + 1 := ⟨h.os.length - 1, by omega⟩
 rw [hf, up, ho]
 dsimp only
 congr 1
 cases hq : o.proto with
 | none => cases f <;> rfl
 | some p =>
  have := k.pw i o ho p hq
  exact up_fuel k.pw p f (f + 1) (by omega) (by omega)
theorem chain_none (h : Hs) : h.chain none = [] := by
 unfold Hs.chain
 cases h.os.length <;> rfl
theorem find_some {h : Hs} (k : Ok h) {i : Nat} {o : Ob} (ho : h.os[i]? = some o) (key : ByteArray) : h.find LK AR (some i) key = (o.own LK AR key).or (h.find LK AR o.proto key) := by
 unfold Hs.find
 rw [chain_some k ho, List.findSome?_cons]
 have e : h.ownAt LK AR key i = o.own LK AR key := by
  unfold Hs.ownAt
  rw [ho]
  rfl
 rw [e]
 cases o.own LK AR key <;> rfl
theorem find_none (h : Hs) (key : ByteArray) : h.find LK AR none key = none := by
 unfold Hs.find
 rw [chain_none]
 rfl
end
section
variable (ix : ByteArray → Option Nat) (dx : Nat → ByteArray) (LK AR : ByteArray)
theorem at_some {h : Hs} {v : Vl} {i : Nat} : h.at v = some i ↔ v.k = 7 ∧ v.s = nil ∧ v.n = (i : Int) + 1 ∧ i < h.os.length := by
 unfold Hs.at
 constructor
 ·intro e
  split at e
  ·rename_i c
   injection e with e
   exact ⟨c.1, c.2.1, by omega, by omega⟩
  ·cases e
 ·intro ⟨h1, h2, h3, h4⟩
  rw [if_pos ⟨h1, h2, by omega, by omega⟩]
  congr 1
  omega
theorem get_lt {os : List Ob} {i : Nat} {o : Ob} (h : os[i]? = some o) : i < os.length := by
 rcases Nat.lt_or_ge i os.length with h' | h'
 ·exact h'
 ·rw [List.getElem?_eq_none h'] at h
  cases h
theorem find_of_idx {ps : List Pr} {key : ByteArray} : ps.find? (has key) = (ps.findIdx? (has key)).bind fun k => ps[k]? := by
 induction ps with
 | nil => rfl
 | cons a r ih =>
  rw [List.find?_cons, List.findIdx?_cons]
  cases has key a with
  | true => rfl
  | false =>
   simp only [Bool.false_eq_true, if_false, ih]
   cases r.findIdx? (has key) <;> rfl
theorem run_snoc (l : List Op) (o : Op) (h : Hs) : h.run ix dx LK AR (l ++ [o]) = (h.run ix dx LK AR l).step ix dx LK AR o := by
 unfold Hs.run
 rw [List.foldl_append]
 rfl
end
section
variable (ix : ByteArray → Option Nat)
theorem worst_spec (n : Nat) : ∀ (ps : List Pr) (k : Nat) (b : Option (Nat × Nat)),
  match worst ix n ps k b with
  | none => b = none ∧ ∀ p ∈ ps, ∀ x, ix p.key = some x → x < n
  | some (j, x) => (b = some (j, x) ∨ ∃ i p, j = k + i ∧ ps[i]? = some p ∧ ix p.key = some x ∧ n ≤ x) ∧ (∀ y, b = some y → y.2 ≤ x) ∧ ∀ p ∈ ps, ∀ y, ix p.key = some y → n ≤ y → y ≤ x
 | [], k, b => by
  rw [worst]
  cases b with
  | none => exact ⟨rfl, by simp⟩
  | some y => exact ⟨.inl rfl, fun z hz => by injection hz with hz; rw [hz]; exact Nat.le_refl _, by simp⟩
 | p :: r, k, b => by
  rw [worst]
  have ih := worst_spec n r (k + 1) (match ix p.key with
   | some x => if n ≤ x ∧ b.all (fun y => decide (y.2 < x)) = true then some (k, x) else b
   | none => b)
  cases hp : ix p.key with
  | none =>
   rw [hp] at ih
   dsimp only at ih ⊢
   cases hw : worst ix n r (k + 1) b with
   | none =>
    rw [hw] at ih
    refine ⟨ih.1, fun q hq x hx => ?_⟩
    rcases List.mem_cons.1 hq with rfl | hq
    ·rw [hp] at hx
     cases hx
    ·exact ih.2 q hq x hx
   | some z =>
    obtain ⟨j, x⟩ := z
    rw [hw] at ih
    obtain ⟨h1, h2, h3⟩ := ih
    refine ⟨?_, h2, fun q hq y hy hn => ?_⟩
    ·rcases h1 with h1 | ⟨i, q, e1, e2, e3⟩
     ·exact .inl h1
     ·exact .inr ⟨i + 1, q, by omega, by simpa using e2, e3⟩
    ·rcases List.mem_cons.1 hq with rfl | hq
     ·rw [hp] at hy
      cases hy
     ·exact h3 q hq y hy hn
  | some v =>
   rw [hp] at ih
   dsimp only at ih ⊢
   by_cases hc : n ≤ v ∧ b.all (fun y => decide (y.2 < v)) = true
   ·rw [if_pos hc] at ih ⊢
    cases hw : worst ix n r (k + 1) (some (k, v)) with
    | none =>
     rw [hw] at ih
     exact absurd ih.1 (by simp)
    | some z =>
     obtain ⟨j, x⟩ := z
     rw [hw] at ih
     obtain ⟨h1, h2, h3⟩ := ih
     have hvx : v ≤ x := h2 (k, v) rfl
     refine ⟨?_, fun y hy => ?_, fun q hq y hy hn => ?_⟩
     ·rcases h1 with h1 | ⟨i, q, e1, e2, e3⟩
      ·injection h1 with h1
       injection h1 with h4 h5
       subst h4 h5
       exact .inr ⟨0, p, rfl, rfl, hp, hc.1⟩
      ·exact .inr ⟨i + 1, q, by omega, by simpa using e2, e3⟩
     ·subst hy
      have := hc.2
      simp only [Option.all_some, decide_eq_true_eq] at this
      omega
     ·rcases List.mem_cons.1 hq with rfl | hq
      ·rw [hp] at hy
       injection hy with hy
       omega
      ·exact h3 q hq y hy hn
   ·rw [if_neg hc] at ih ⊢
    cases hw : worst ix n r (k + 1) b with
    | none =>
     rw [hw] at ih
     refine ⟨ih.1, fun q hq x hx => ?_⟩
     rcases List.mem_cons.1 hq with rfl | hq
     ·rw [hp] at hx
      injection hx with hx
      rw [ih.1] at hc
      simp at hc
      omega
     ·exact ih.2 q hq x hx
    | some z =>
     obtain ⟨j, x⟩ := z
     rw [hw] at ih
     obtain ⟨h1, h2, h3⟩ := ih
     refine ⟨?_, h2, fun q hq y hy hn => ?_⟩
     ·rcases h1 with h1 | ⟨i, q, e1, e2, e3⟩
      ·exact .inl h1
      ·exact .inr ⟨i + 1, q, by omega, by simpa using e2, e3⟩
     ·rcases List.mem_cons.1 hq with rfl | hq
      ·rw [hp] at hy
       injection hy with hy
       subst hy
       cases b with
       | none => simp [hn] at hc
       | some y =>
        have := h2 y rfl
        simp only [Option.all_some, decide_eq_true_eq, not_and] at hc
        have := hc hn
        omega
      ·exact h3 q hq y hy hn
theorem worst_none {n : Nat} {ps : List Pr} (h : worst ix n ps 0 none = none) : ∀ p ∈ ps, ∀ x, ix p.key = some x → x < n := by
 have := worst_spec ix n ps 0 none
 rw [h] at this
 exact this.2
theorem worst_some {n : Nat} {ps : List Pr} {k x : Nat} (h : worst ix n ps 0 none = some (k, x)) : ∃ p, ps[k]? = some p ∧ ix p.key = some x ∧ n ≤ x ∧ ∀ q ∈ ps, ∀ y, ix q.key = some y → n ≤ y → y ≤ x := by
 have := worst_spec ix n ps 0 none
 rw [h] at this
 obtain ⟨h1, _, h3⟩ := this
 rcases h1 with h1 | ⟨i, p, e1, e2, e3, e4⟩
 ·cases h1
 ·rw [Nat.zero_add] at e1
  subst e1
  exact ⟨p, e2, e3, e4, h3⟩
theorem get_mem_lt {ps : List Pr} {k : Nat} {p : Pr} (h : ps[k]? = some p) : k < ps.length := by
 rcases Nat.lt_or_ge k ps.length with h' | h'
 ·exact h'
 ·rw [List.getElem?_eq_none h'] at h
  cases h
theorem cutGo_fuel (n : Nat) : ∀ (f g : Nat) (o : Ob), o.ps.length < f → o.ps.length < g → cutGo ix n f o = cutGo ix n g o
 | 0, _, _, h, _ => by omega
 | _, 0, _, _, h => by omega
 | f + 1, g + 1, o, hf, hg => by
  rw [cutGo, cutGo]
  cases hw : worst ix n o.ps 0 none with
  | none => rfl
  | some z =>
   obtain ⟨k, x⟩ := z
   obtain ⟨p, hp, _⟩ := worst_some ix hw
   have hk := get_mem_lt hp
   dsimp only
   split
   ·have e : (o.ps.eraseIdx k).length + 1 = o.ps.length := by
     rw [List.length_eraseIdx_of_lt hk]
     omega
    exact cutGo_fuel n f g _ (by show (o.ps.eraseIdx k).length < f; omega) (by show (o.ps.eraseIdx k).length < g; omega)
   ·rfl
theorem cut_none {o : Ob} {n : Nat} (h : worst ix n o.ps 0 none = none) : o.cut ix n = ({ o with len := n }, 0) := by
 unfold Ob.cut
 rw [cutGo, h]
theorem cut_bar {o : Ob} {n k x : Nat} {p : Pr} (h : worst ix n o.ps 0 none = some (k, x)) (hp : o.ps[k]? = some p) (hf : p.f = false) : o.cut ix n = ({ o with len := x + 1 }, 110) := by
 unfold Ob.cut
 rw [cutGo, h]
 dsimp only
 rw [hp, Option.map_some, Option.getD_some, hf, if_neg Bool.false_ne_true]
theorem cut_go {o : Ob} {n k x : Nat} {p : Pr} (h : worst ix n o.ps 0 none = some (k, x)) (hp : o.ps[k]? = some p) (hf : p.f = true) : o.cut ix n = Ob.cut ix { o with ps := o.ps.eraseIdx k } n := by
 unfold Ob.cut
 rw [cutGo, h]
 dsimp only
 rw [hp, Option.map_some, Option.getD_some, hf, if_pos rfl]
 have hk := get_mem_lt hp
 have e : (o.ps.eraseIdx k).length + 1 = o.ps.length := by
  rw [List.length_eraseIdx_of_lt hk]
  omega
 exact cutGo_fuel ix n _ _ _ (by show (o.ps.eraseIdx k).length < _; omega) (by show (o.ps.eraseIdx k).length < _; omega)
def below (n : Nat) (p : Pr) : Bool := match ix p.key with
 | some x => decide (x < n)
 | none => true
end
end Go.Proofs.YtcahijpbkjplmaaGreatDoor.G
