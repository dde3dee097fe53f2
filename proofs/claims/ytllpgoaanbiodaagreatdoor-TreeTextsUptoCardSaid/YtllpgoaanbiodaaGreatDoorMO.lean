/-

-/
import Derived.Test.YtllpgoaanbiodaaGreatDoorMS
import Derived.Lib.Join
import Derived.Lib.ItoaNum
namespace Go.Proofs.YtllpgoaanbiodaaGreatDoor.R
open Go.RowKit Go.Proofs.YtllpgoaanbiodaaGreatDoor Go.Proofs.YtllpgoaanbiodaaGreatDoor.T
abbrev Ts := List ByteArray
instance : Inhabited ByteArray := ⟨⟨#[]⟩⟩
structure O where
 k : Int
 nm : ByteArray
 lvl : Nat
 raw : Bool → Ts
 st : Ts
instance : Inhabited O := ⟨⟨0, ⟨#[]⟩, 0, fun _ => [], []⟩⟩
def O.at (o : O) (m : Nat) (no : Bool) : Ts :=
 if o.lvl < m ∨ (no = true ∧ o.k = 17 ∧ bl o.nm = [105, 110]) then ⟨#[40]⟩ :: (o.raw false ++ [⟨#[41]⟩]) else o.raw no
def O.part (o : O) (no : Bool) : Ts := if o.k = 42 then [] else if o.k = 22 then o.raw no else o.at 0 no
def commas : List Ts → Ts
 | [] => []
 | [a] => a
 | a :: b :: r => a ++ ⟨#[44]⟩ :: commas (b :: r)
def some1 (s : ByteArray) : Ts := if s.size = 0 then [] else [s]
def quo (s : ByteArray) : ByteArray := ⟨(quote (us (bl s))).toArray⟩
def dec (n : Int) : ByteArray := ⟨(Lib.itoa n).toArray⟩
def stmts (l : List O) : Ts := l.flatMap O.st
def block (l : List O) : Ts := ⟨#[123]⟩ :: (stmts l ++ [⟨#[125]⟩])
abbrev brack (a b : ByteArray) (t : Ts) : Ts := a :: (t ++ [b])
def headT (w : ByteArray) (o : O) : Ts := w :: brack ⟨#[40]⟩ ⟨#[41]⟩ (o.at 0 false)
def func (nm : ByteArray) (ks : List ByteArray) (l : List O) : Ts :=
 ⟨#[102, 117, 110, 99, 116, 105, 111, 110]⟩ :: (some1 nm ++ (brack ⟨#[40]⟩ ⟨#[41]⟩ (commas (ks.map fun k => [k])) ++ block l))
def bareT (t : Ts) : Ts := if t.head? = some ⟨#[123]⟩ ∨ t.head? = some ⟨#[102, 117, 110, 99, 116, 105, 111, 110]⟩ then brack ⟨#[40]⟩ ⟨#[41]⟩ t else t
def lvlN (k : Int) (nm : ByteArray) (n : Int) (l : List O) : Nat :=
 if k = 21 then 0 else if k = 20 then 1 else if k = 19 then 2 else if k = 17 ∨ k = 18 then opl (bl nm) else if k = 15 then 9
 else if k = 16 then (if n = 1 then 9 else 10) else if k = 13 then 11 else if k = 11 ∨ k = 12 then (if 12 ≤ (l.getD 0 default).lvl then 12 else 11)
 else if k = 14 then 12 else 13
def rawN (k : Int) (nm : ByteArray) (n : Int) (s : ByteArray) (ks : List ByteArray) (l : List O) (no : Bool) : Ts :=
 if k = 1 then [dec n]
 else if k = 2 then [quo s]
 else if k = 3 then [nm]
 else if k = 4 then [⟨#[116, 104, 105, 115]⟩]
 else if k = 5 then [⟨#[110, 117, 108, 108]⟩]
 else if k = 6 then [if n = 0 then ⟨#[102, 97, 108, 115, 101]⟩ else ⟨#[116, 114, 117, 101]⟩]
 else if k = 7 then brack ⟨#[91]⟩ ⟨#[93]⟩ (commas (l.map fun o => o.at 1 false))
 else if k = 8 then brack ⟨#[123]⟩ ⟨#[125]⟩ (commas (l.map fun o => o.raw false))
 else if k = 9 then quo s :: ⟨#[58]⟩ :: (l.getD 0 default).at 1 false
 else if k = 10 ∨ k = 39 then func nm ks l
 else if k = 11 then (l.getD 0 default).at 11 no ++ [⟨#[46]⟩, nm]
 else if k = 12 then (l.getD 0 default).at 11 no ++ brack ⟨#[91]⟩ ⟨#[93]⟩ ((l.getD 1 default).at 0 false)
 else if k = 13 then (l.getD 0 default).at 11 no ++ brack ⟨#[40]⟩ ⟨#[41]⟩ (commas (l.tail.map fun o => o.at 1 false))
 else if k = 14 then ⟨#[110, 101, 119]⟩ :: ((l.getD 0 default).at 12 no ++ brack ⟨#[40]⟩ ⟨#[41]⟩ (commas (l.tail.map fun o => o.at 1 false)))
 else if k = 15 then nm :: (l.getD 0 default).at 9 no
 else if k = 16 then (if n = 1 then nm :: (l.getD 0 default).at 11 no else (l.getD 0 default).at 11 no ++ [nm])
 else if k = 17 ∨ k = 18 then (l.getD 0 default).at (opl (bl nm)) no ++ nm :: (l.getD 1 default).at (opl (bl nm) + 1) no
 else if k = 19 then (l.getD 0 default).at 3 no ++ (brack ⟨#[63]⟩ ⟨#[58]⟩ ((l.getD 1 default).at 1 false) ++ (l.getD 2 default).at 1 no)
 else if k = 20 then (l.getD 0 default).at 11 no ++ nm :: (l.getD 1 default).at 1 no
 else if k = 21 then (l.getD 0 default).at 0 no ++ ⟨#[44]⟩ :: (l.getD 1 default).at 1 no
 else if k = 22 then ⟨#[118, 97, 114]⟩ :: commas (l.map fun o => o.raw no)
 else if k = 23 then nm :: (match l with | [] => [] | o :: _ => ⟨#[61]⟩ :: o.at 1 no)
 else []
def valT (l : List O) : Ts := match l with | [] => [] | o :: _ => o.at 0 false
def stN (k : Int) (nm : ByteArray) (n : Int) (s : ByteArray) (ks : List ByteArray) (l : List O) : Ts :=
 if k = 22 then rawN k nm n s ks l false ++ [⟨#[59]⟩]
 else if k = 24 then bareT ((l.getD 0 default).at 0 false) ++ [⟨#[59]⟩]
 else if k = 25 then block l
 else if k = 26 then headT ⟨#[105, 102]⟩ (l.getD 0 default) ++ ((l.getD 1 default).st ++ (if 2 < l.length then ⟨#[101, 108, 115, 101]⟩ :: (l.getD 2 default).st else []))
 else if k = 27 then headT ⟨#[119, 104, 105, 108, 101]⟩ (l.getD 0 default) ++ (l.getD 1 default).st
 else if k = 28 then ⟨#[100, 111]⟩ :: ((l.getD 0 default).st ++ (headT ⟨#[119, 104, 105, 108, 101]⟩ (l.getD 1 default) ++ [⟨#[59]⟩]))
 else if k = 29 then ⟨#[102, 111, 114]⟩ :: (brack ⟨#[40]⟩ ⟨#[41]⟩ ((l.getD 0 default).part true ++ ⟨#[59]⟩ :: ((l.getD 1 default).part false ++ ⟨#[59]⟩ :: (l.getD 2 default).part false)) ++ (l.getD 3 default).st)
 else if k = 30 then ⟨#[102, 111, 114]⟩ :: (brack ⟨#[40]⟩ ⟨#[41]⟩ ((l.getD 0 default).part false ++ ⟨#[105, 110]⟩ :: (l.getD 1 default).at 0 false) ++ (l.getD 2 default).st)
 else if k = 31 then ⟨#[98, 114, 101, 97, 107]⟩ :: (some1 nm ++ [⟨#[59]⟩])
 else if k = 32 then ⟨#[99, 111, 110, 116, 105, 110, 117, 101]⟩ :: (some1 nm ++ [⟨#[59]⟩])
 else if k = 33 then ⟨#[114, 101, 116, 117, 114, 110]⟩ :: (valT l ++ [⟨#[59]⟩])
 else if k = 34 then ⟨#[116, 104, 114, 111, 119]⟩ :: (valT l ++ [⟨#[59]⟩])
 else if k = 35 then ⟨#[116, 114, 121]⟩ :: ((l.getD 0 default).st ++ ((if (l.getD 1 default).k = 25 then ⟨#[99, 97, 116, 99, 104]⟩ :: (brack ⟨#[40]⟩ ⟨#[41]⟩ [nm] ++ (l.getD 1 default).st) else []) ++ (if (l.getD 2 default).k = 25 then ⟨#[102, 105, 110, 97, 108, 108, 121]⟩ :: (l.getD 2 default).st else [])))
 else if k = 36 then headT ⟨#[115, 119, 105, 116, 99, 104]⟩ (l.getD 0 default) ++ block l.tail
 else if k = 37 then (if (l.getD 0 default).k = 42 then [⟨#[100, 101, 102, 97, 117, 108, 116]⟩, ⟨#[58]⟩] else brack ⟨#[99, 97, 115, 101]⟩ ⟨#[58]⟩ ((l.getD 0 default).at 0 false)) ++ stmts l.tail
 else if k = 38 then nm :: ⟨#[58]⟩ :: (l.getD 0 default).st
 else if k = 39 then func nm ks l
 else [⟨#[59]⟩]
mutual
def V.o : V → O
 | .mk k nm n s ks l => ⟨k, nm, lvlN k nm n (V.os l), rawN k nm n s ks (V.os l), stN k nm n s ks (V.os l)⟩
def V.os : List V → List O
 | [] => []
 | v :: r => v.o :: V.os r
end
theorem os_map (l : List V) : V.os l = l.map V.o := by
 induction l with
 | nil => rfl
 | cons x r ih => rw [V.os, ih, List.map_cons]
theorem o_mk (v : V) : v.o = ⟨v.k, v.nm, lvlN v.k v.nm v.n (v.l.map V.o), rawN v.k v.nm v.n v.s v.ks (v.l.map V.o), stN v.k v.nm v.n v.s v.ks (v.l.map V.o)⟩ := by
 cases v
 rw [V.o, os_map]
 rfl
theorem o_k (v : V) : v.o.k = v.k := by rw [o_mk]
theorem o_nm (v : V) : v.o.nm = v.nm := by rw [o_mk]
theorem o_lvl (v : V) : v.o.lvl = lvlN v.k v.nm v.n (v.l.map V.o) := by rw [o_mk]
theorem o_raw (v : V) (no : Bool) : v.o.raw no = rawN v.k v.nm v.n v.s v.ks (v.l.map V.o) no := by rw [o_mk]
theorem o_st (v : V) : v.o.st = stN v.k v.nm v.n v.s v.ks (v.l.map V.o) := by rw [o_mk]
def V.toks (v : V) : Ts := stmts (v.l.map V.o)
def V.txt (v : V) : Bs := Lib.join (v.toks.map bl) [32]
def V.tres (v : V) : Value := if v.chk = 0 then (if 4096 < v.txt.length then .tuple #[.string ⟨#[]⟩, .int .i64 2] else .tuple #[.string ⟨v.txt.toArray⟩, .int .i64 0]) else .tuple #[.string ⟨#[]⟩, .int .i64 v.chk]
end Go.Proofs.YtllpgoaanbiodaaGreatDoor.R
