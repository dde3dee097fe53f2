/-
 all's iterator: an object's properties, in order.
 all, chain; chain's iterator: an object and its prototypes.
 first: the first property with a key, of an object or up its prototypes.
 Get; Keys, by contract.
-/
import Derived.Test.YtcahijpbkjplmaaGreatDoorMPf
import Derived.Shelf.Abstract
import Derived.Shelf.RegionOpen
import Derived.WalkKit
import Derived.OwnWalkIn
import Derived.TacticsInMore
import Derived.LoopNIn
import Derived.LoopIn
import Derived.Sort.LoopGhostIn
import Derived.Maps.OwnIn
import Derived.RangeFuncNested
import Derived.LaidEqlPtr
import Derived.Deep.AppendLies
set_option linter.unusedSimpArgs false
namespace Go.Proofs.YtcahijpbkjplmaaGreatDoor.G
open Go.RowKit Go.Shelf Go.Maps Go.Proofs.YtcahijpbkjplmaaGreatDoor
attribute [local go_sem] Oper.semAt_some
theorem infoPr : (Tryz.prog.info? 81).map (·.size) = some 9 := by kernel_rfl
theorem ptr_equal (w : World) {a b : Addr} {T T' : TypeId} {xs ys : List Value} (ha : Blk w a.block T xs) (hb : Blk w b.block T' ys) :
  (Op.equal 79 (av a) (av b)).run Tryz.prog w = .ok (decide (a = b)) w := by
 obtain ⟨j, hj, hs⟩ := Option.map_eq_some_iff.1 infoPr
 have hsz : j.size ≠ 0 := by rw [hs]; decide
 have hp := Tryz.underlying79
 by_cases h : a = b
 ·subst h
  rw [decide_eq_true rfl]
  have h : ∀ d : Nat, (Op.equalIn (d + 1) 79 (.pointer (some a)) (.pointer (some a))).run Tryz.prog w = .ok true w := fun d => by
   simp [Op.equalIn, run_underlying hp, sizeOf, typeInfo, hj, run_sameAddr_same]
  simp [Op.equal, Op.maxDepth, h 9999]
 ·rw [decide_eq_false h]
  have h : ∀ d : Nat, (Op.equalIn (d + 1) 79 (.pointer (some a)) (.pointer (some b))).run Tryz.prog w = .ok false w := fun d => by
   simp [Op.equalIn, run_underlying hp, sizeOf, typeInfo, hj, hsz, run_sameAddr_other w h ha hb]
  simp [Op.equal, Op.maxDepth, h 9999]
theorem ptr_eql (w : World) {a b : Addr} {T T' : TypeId} {xs ys : List Value} (ha : Blk w a.block T xs) (hb : Blk w b.block T' ys) :
  (binOp .eql 79 (av a) (av b)).run Tryz.prog w = .ok (.bool (decide (a = b))) w := by
 simp only [binOp]
 simp [ptr_equal w ha hb]
theorem ptr_neq (w : World) {a b : Addr} {T T' : TypeId} {xs ys : List Value} (ha : Blk w a.block T xs) (hb : Blk w b.block T' ys) :
  (binOp .neq 79 (av a) (av b)).run Tryz.prog w = .ok (.bool (!decide (a = b))) w := by
 simp only [binOp]
 simp [ptr_equal w ha hb]
abbrev Kb (ow : Nat → Option Nat) (B : Nat) (k : Nat) : Prop := k = B ∨ ow k ≠ none
theorem take_snoc {m j : Nat} (h : j < m) : (List.finRange m).take (j + 1) = (List.finRange m).take j ++ [⟨j, h⟩] := by
 rw [List.take_succ_eq_append_getElem (by simpa using h)]
 simp
set_option maxRecDepth 8000 in
theorem all_seq {ow : Nat → Option Nat} {i n' : Nat} {pp : Value} {x : OL} {o : Ob} (F : Fence) (n : Nat) (hf : F.fn 82) (hro : F.round = none) (hn : 1 ≤ n) (B : Nat) (w : World) (hB : w.cell? ⟨B, 0, none⟩ = some (pv x.b))
  (h : ObjAt w ow i n' pp x o) (hl : ∀ k, ow k ≠ none → k < w.heap.size) :
  SeqStopsK F n Tryz.prog 82 #[pv B] (fun j : _root_.Fin x.pb.length => #[pv x.pb[j.1]]) (Fr (Kb ow B)) (fun xs => xs = List.finRange x.pb.length) (fun pre => ∃ k, pre = (List.finRange x.pb.length).take k) x.pb.length w := by
 intro l J Jx W hW _ _ hY h0
 have hBl : B < w.heap.size := by
  obtain ⟨u, hu, -⟩ := cells_of_cell hB
  exact (Array.getElem?_eq_some_iff.1 hu).1
 have hx := h.low hl hW
 have hc : W.cell? ⟨B, 0, none⟩ = some (pv x.b) := (hW.cell (p := ⟨B, 0, none⟩) hBl).trans hB
 have hbe := hx.ob.cell (k := 13) rfl
 have HX := Lib.hid hx
 have HC := Lib.hid hc
 have HJ0 : Hid (J ((List.finRange x.pb.length).take 0) W) := by
  show J _ W
  rw [List.take_zero]
  exact h0
 clear hW hB h hl h0 hx hBl
 simp only [List.append_toArray, List.cons_append, List.nil_append]
 refine callsIn_of_wp Tryz.func82 rfl hf ?_ hro
 simp only [Tryz.ntmps82, List.size_toArray, List.length_cons, List.length_nil, Nat.reduceAdd, Nat.reduceSub, Array.replicate_succ, Array.replicate_zero, List.push_toArray, List.append_toArray, List.nil_append, List.cons_append]
 gi_wp2_with fail
 clear hc hbe
 gi_loopg [3] x.pb.length (fun q p wr => ∃ j : Nat, j ≤ x.pb.length ∧ p = av (nd x.b x.pb (j + 1)) ∧ Hid (J ((List.finRange x.pb.length).take j) wr) ∧ Hid (Fr (Kb ow B) W wr) ∧ x.pb.length - j ≤ q)
 case atStart => exact ⟨0, Nat.zero_le _, rfl, HJ0, Lib.hid (Fr.refl _ _), Nat.le_refl _⟩
 case round =>
  obtain ⟨j, hj, rfl, hjj, hfr, hq⟩ := hrel
  have hx := HX.out.fr (ow' := ow) (w' := wr) (fun k e => ⟨e, hfr.out.block k (.inr (by rw [e]; simp))⟩) (Nat.le_refl _)
  have hc : wr.cell? ⟨B, 0, none⟩ = some (pv x.b) := (hfr.out.cell (p := ⟨B, 0, none⟩) (.inl rfl)).trans HC.out
  by_cases hlt : j < x.pb.length
  ·rw [nd_of hlt]
   obtain ⟨fn, tmps, assign, body, hy, hR⟩ := hY ((List.finRange x.pb.length).take j) ⟨j, hlt⟩ wr hjj.out (by rw [List.length_take, List.length_finRange]; omega)
   dsimp only at hy
   have HBH : Hid (∀ W', Fr (Kb ow B) W W' → W'.cell? ⟨x.pb[j], 8, none⟩ = some (av (nd x.b x.pb (j + 1 + 1)))) := fun W' hf => by
    have hx' := HX.out.fr (ow' := ow) (w' := W') (fun k e => ⟨e, hf.block k (.inr (by rw [e]; simp))⟩) (Nat.le_refl _)
    exact (hx'.pr j hlt (by rw [← hx'.pl]; exact hlt)).cell (k := 8) rfl
   have HT := Lib.hid (take_snoc hlt)
   have hne := ptr_neq wr (a := ⟨x.pb[j], 0, none⟩) (b := ⟨x.b, 5, none⟩) (hx.pr j hlt (by rw [← hx.pl]; exact hlt)) hx.ob
   rw [decide_eq_false (by intro e; injection e with _ e; cases e)] at hne
   clear hx
   gi_wp2_with fail
   refine hR.mono ?_
   rintro e W4 (⟨rfl, hJ4, hk4⟩ | ⟨rfl, hJx4⟩)
   ·rw [← HT.out] at hJ4
    have hk5 := hfr.out.trans hk4
    have hbe := HBH.out W4 hk5
    have HJ4 := Lib.hid hJ4
    have HK5 := Lib.hid hk5
    clear hJ4 hk4 hk5 hfr hjj hR hy hc HBH HT
    gi_wp2_with fail
    go_roundg (x.pb.length - (j + 1))
    case measure => omega
    case rel => exact ⟨j + 1, hlt, rfl, HJ4, HK5, Nat.le_refl _⟩
   ·gi_wp2_with fail
    refine bodyPost_ret (results_none rfl _ _ _) rfl ?_
    exact ⟨⟨_, rfl⟩, .inr ⟨_, ⟨j + 1, HT.out.symm⟩, hJx4⟩⟩
  ·obtain rfl : j = x.pb.length := by omega
   rw [nd_end (Nat.le_refl _)]
   have HJ := Lib.hid hjj.out
   rw [List.take_of_length_le (by simp)] at HJ
   have hne := ptr_neq wr (a := ⟨x.b, 5, none⟩) (b := ⟨x.b, 5, none⟩) hx.ob hx.ob
   rw [decide_eq_true rfl] at hne
   clear hx
   gi_wp2_with fail
   go_end0
   exact ⟨⟨_, rfl⟩, .inl ⟨_, rfl, HJ.out⟩⟩
attribute [local go_sem] Oper.semAt_some
theorem all_any (b : Nat) (w : World) :
  Calls Tryz.prog 53 #[pv b] w fun e w' => e = .returned (.func (.func 82) #[] #[pv w.heap.size]) ∧ w' = w.alloc (.cells #[pv b] 76) := by
 go_enter Tryz.func53, Tryz.ntmps53
 go_wp2_with fail
 go_ret
 exact ⟨rfl, rfl⟩
theorem chain_any (A : Nat) (v : Vl) (w : World) :
  Calls Tryz.prog 78 #[pv A, v.v] w fun e w' => e = .returned (.func (.func 94) #[] #[pv w.heap.size, pv (w.heap.size + 1)]) ∧ w' = (w.alloc (.cells #[pv A] 24)).alloc (.cells (Vl.cs v).toArray 29) := by
 obtain ⟨vk, vn, vs⟩ := v
 simp only [Vl.v, Vl.cs]
 go_enter Tryz.func78, Tryz.ntmps78
 go_wp2_with fail
 go_ret
 exact ⟨rfl, rfl⟩
set_option maxRecDepth 8000 in
theorem chain_seq {ow : Nat → Option Nat} {A : Nat} {H : Hs} {L : List OL} (n : Nat) (hn : 1 ≤ n) (B1 B2 : Nat) (v : Vl) (w : World) (q0 : Option Nat) (hq0 : H.at v = q0) (c : List Nat) (hc0 : H.chain q0 = c)
  (hB : w.cell? ⟨B1, 0, none⟩ = some (pv A)) (hB2 : w.cell? ⟨B2, 0, none⟩ = some (.int .i64 v.k) ∧ w.cell? ⟨B2, 1, none⟩ = some (.int .i64 v.n) ∧ w.cell? ⟨B2, 2, none⟩ = some (.string v.s)) (h : PH w A H ow L) (g : Gd H) :
  SeqStopsK Fence.wide n Tryz.prog 94 #[pv B1, pv B2] (fun j : _root_.Fin c.length => #[ppv L (some c[j.1])]) (Fr (Ft ow)) (fun xs => xs = List.finRange c.length) (fun pre => ∃ k, pre = (List.finRange c.length).take k) c.length w := by
 intro l J Jx W hW hJa _ hY h0
 have hBl : B1 < w.heap.size := by
  obtain ⟨u, hu, -⟩ := cells_of_cell hB
  exact (Array.getElem?_eq_some_iff.1 hu).1
 have hBl2 : B2 < w.heap.size := by
  obtain ⟨u, hu, -⟩ := cells_of_cell hB2.1
  exact (Array.getElem?_eq_some_iff.1 hu).1
 have hx := h.low hW
 have hcb : W.cell? ⟨B1, 0, none⟩ = some (pv A) := (hW.cell (p := ⟨B1, 0, none⟩) hBl).trans hB
 obtain ⟨b0, b1, b2⟩ := hB2
 replace b0 := (hW.cell (p := ⟨B2, 0, none⟩) hBl2).trans b0
 replace b1 := (hW.cell (p := ⟨B2, 1, none⟩) hBl2).trans b1
 replace b2 := (hW.cell (p := ⟨B2, 2, none⟩) hBl2).trans b2
 have HFI := Lib.hid (find_any hx v g.os100)
 rw [hq0] at HFI
 have HX := Lib.hid hx
 have HOK := Lib.hid g.ok
 have HJA := Lib.hid hJa
 have HJ0 : Hid (J ((List.finRange c.length).take 0) W) := by
  show J _ W
  rw [List.take_zero]
  exact h0
 have HAL : Hid (∀ i, q0 = some i → i < H.os.length) := fun i e => at_lt (hq0.trans e)
 have HC0 := Lib.hid hc0
 clear hW hB h g h0 hx hBl hBl2 hq0 hc0 hJa
 obtain ⟨vk, vn, vs⟩ := v
 simp only [Vl.v] at HFI b0 b1 b2
 simp only [List.append_toArray, List.cons_append, List.nil_append]
 refine callsIn_of_wp Tryz.func94 rfl trivial ?_ rfl
 simp only [Tryz.ntmps94, List.size_toArray, List.length_cons, List.length_nil, Nat.reduceAdd, Nat.reduceSub, Array.replicate_succ, Array.replicate_zero, List.push_toArray, List.append_toArray, List.nil_append, List.cons_append]
 gi_wp2_with fail
 refine ⟨trivial, (callsIn_wide.2 HFI.out).mono ?_⟩
 rintro e w1 ⟨rfl, hb⟩
 have HF0 : Hid (Fr (Ft ow) W w1) := Fr.of hb HX.out.lt
 have HJ1 : Hid (J ((List.finRange c.length).take 0) w1) := HJA.out _ _ _ none HJ0.out ⟨hb.os, hb.tape, hb.output, hb.size, fun k hk _ => hb.block k hk⟩ (fun r e => by cases e)
 have HD0 : Hid (c.drop 0 = H.chain q0) := HC0.out.symm
 clear hb hcb b0 b1 b2 HFI HJ0 HJA HC0
 gi_wp2_with fail
 gi_loopg [4] c.length (fun q p wr => ∃ (j : Nat) (qq : Option Nat), j ≤ c.length ∧ p = ppv L qq ∧ Hid (c.drop j = H.chain qq) ∧ Hid (∀ i, qq = some i → i < H.os.length) ∧ Hid (J ((List.finRange c.length).take j) wr) ∧ Hid (Fr (Ft ow) W wr) ∧ c.length - j ≤ q)
 case atStart => exact ⟨0, q0, Nat.zero_le _, rfl, HD0, HAL, HJ1, HF0, Nat.le_refl _⟩
 case round =>
  obtain ⟨j, qq, hj, rfl, hd, hal, hjj, hfr, hq⟩ := hrel
  cases qq with
  | none =>
   have hjc : j = c.length := by
    have := congrArg List.length hd.out
    rw [chain_none, List.length_drop] at this
    simp at this
    omega
   subst hjc
   have HJ := Lib.hid hjj.out
   rw [List.take_of_length_le (by simp)] at HJ
   rw [show ppv L none = Value.pointer none from rfl]
   gi_wp2_with fail
   go_end0
   exact ⟨⟨_, rfl⟩, .inl ⟨_, rfl, HJ.out⟩⟩
  | some i =>
   have hi := hal.out i rfl
   have hiL : i < L.length := by rw [HX.out.len]; exact hi
   have hch := chain_some HOK.out (List.getElem?_eq_getElem hi)
   rw [← hd.out] at hch
   have hlt : j < c.length := by
    rcases Nat.lt_or_ge j c.length with h' | h'
    ·exact h'
    ·rw [List.drop_eq_nil_of_le h'] at hch
     cases hch
   rw [List.drop_eq_getElem_cons hlt] at hch
   injection hch with hc1 hc2
   obtain ⟨fn, tmps, assign, body, hy, hR⟩ := hY ((List.finRange c.length).take j) ⟨j, hlt⟩ wr hjj.out (by rw [List.length_take, List.length_finRange]; omega)
   dsimp only at hy
   rw [hc1] at hy
   have hpi : ppv L (some i) = pv L[i].b := by simp only [ppv, List.getElem?_eq_getElem hiL]
   rw [hpi] at hy ⊢
   have HBH : Hid (∀ W', Fr (Ft ow) W W' → W'.cell? ⟨L[i].b, 2, none⟩ = some (ppv L H.os[i].proto)) := fun W' hf => by
    have hx' := HX.out.keep hf (fun _ h => h)
    exact (hx'.ob i hiL hi).ob.cell (k := 2) rfl
   have HT := Lib.hid (take_snoc hlt)
   have HD2 := Lib.hid hc2
   have HAL2 : Hid (∀ p, H.os[i].proto = some p → p < H.os.length) := fun p hp => by
    have := HOK.out.pw i _ (List.getElem?_eq_getElem hi) p hp
    omega
   clear hc1 hc2 hpi
   gi_wp2_with fail
   refine hR.mono ?_
   rintro e W4 (⟨rfl, hJ4, hk4⟩ | ⟨rfl, hJx4⟩)
   ·rw [← HT.out] at hJ4
    have hk5 := hfr.out.trans hk4
    have hbe := HBH.out W4 hk5
    have HJ4 := Lib.hid hJ4
    have HK5 := Lib.hid hk5
    clear hJ4 hk4 hk5 hfr hjj hR hy HBH HT
    gi_wp2_with fail
    go_roundg (c.length - (j + 1))
    case measure => omega
    case rel => exact ⟨j + 1, H.os[i].proto, hlt, rfl, HD2, HAL2, HJ4, HK5, Nat.le_refl _⟩
   ·gi_wp2_with fail
    refine bodyPost_ret (results_none rfl _ _ _) rfl ?_
    exact ⟨⟨_, rfl⟩, .inr ⟨_, ⟨j + 1, HT.out.symm⟩, hJx4⟩⟩
attribute [local go_sem] Oper.semAt_some
theorem keepsFrom_below {B : Nat} {W W' : World} (h : Below W.heap.size W W') : KeepsFrom B W W' := ⟨h.size, fun k _ _ hk _ => (h.block k (Array.getElem?_eq_some_iff.1 hk).1).trans hk⟩
theorem below_put {C : Nat} (W : World) (l : Nat) (o o' : Obj) (hl : C ≤ l) (h : W.heap[l]? = some o) : Below C W (W.putObj l o') :=
 (Below.refl C W).grown (grownBy_putObj' W l o') (by have := (Array.getElem?_eq_some_iff.1 h).1; omega) (fun k e => by cases e; exact hl)
def news (w : World) : List Obj → World
 | [] => w
 | o :: r => news (w.alloc o) r
theorem news_size : ∀ (l : List Obj) (w : World), (news w l).heap.size = w.heap.size + l.length
 | [], w => rfl
 | o :: r, w => by
  rw [news, news_size r, World.size_alloc, List.length_cons]
  omega
theorem news_below : ∀ (l : List Obj) (w : World), Below w.heap.size w (news w l)
 | [], w => Below.refl _ _
 | o :: r, w => (below_new w o).trans ((news_below r _).mono (by simp))
theorem news_get : ∀ (l : List Obj) (w : World) (j : Nat) (o : Obj), l[j]? = some o → (news w l).heap[w.heap.size + j]? = some o
 | [], w, j, o, h => by simp at h
 | a :: r, w, 0, o, h => by
  rw [news]
  have := (news_below r (w.alloc a)).block w.heap.size (by simp)
  rw [Nat.add_zero, this, World.alloc_heap_new]
  simpa using h
 | a :: r, w, j + 1, o, h => by
  rw [news]
  have := news_get r (w.alloc a) j o (by simpa using h)
  rw [World.size_alloc] at this
  rw [show w.heap.size + (j + 1) = w.heap.size + 1 + j from by omega]
  exact this
theorem news_blk {w : World} {l : List Obj} {j : Nat} {T : TypeId} {xs : List Value} (h : l[j]? = some (.cells xs.toArray T)) : Blk (news w l) (w.heap.size + j) T xs := news_get l w j _ h
theorem res_pc {fn : Func} {p u : Tmp} (h : fn.results = #[.cell p 31, .cell u 4]) (tmps : Array Value) (w : World) (g k : Nat) (v : Pr) (b : Bool) (hp : tmps.getD p undef = pv g) (hu : tmps.getD u undef = pv k) (hg : Blk w g 31 v.cs) (hk : w.cell? ⟨k, 0, none⟩ = some (.bool b)) :
  (results fn tmps).run Tryz.prog w = .ok (.tuple #[v.v', .bool b]) w := by
 have hp' : tmps[p]?.getD undef = pv g := by simpa using hp
 have hu' : tmps[u]?.getD undef = pv k := by simpa using hu
 have h2 : (loadVar 4 ⟨k, 0, none⟩).run Tryz.prog w = .ok (.bool b) w := by simp [go_sem, hk]
 have h1 := run_loadVar_row w g 31 31 v.cs.toArray (0, 0) _ hg Tryz.underlying31 rfl infoP
 simp only [results, h]
 simp [hp', hu', asAddr, h1, h2]
 rfl
theorem grown_blk {X Y : World} {row : Option Nat} {B b : Nat} {T : TypeId} {xs : List Value} (h : Blk X b T xs) (hg : X.grownBy Y row) (hr : ∀ r, row = some r → B ≤ r) (hb : b < B) : Blk Y b T xs := h.fr (hg.block b h.lt fun e => by have := hr b e.symm; omega)
theorem findSome_take {α β : Type} {f : α → Option β} : ∀ {l pre : List α} {x : α} {q : β} {k : Nat}, pre ++ [x] = l.take k → (∀ j ∈ pre, f j = none) → f x = some q → l.findSome? f = some q
 | l, [], x, q, k, h, _, hx => by
  cases l with
  | nil => simp at h
  | cons a r =>
   cases k with
   | zero => simp at h
   | succ k =>
    rw [List.take_succ_cons, List.nil_append] at h
    injection h with h _
    rw [List.findSome?_cons, ← h, hx]
 | l, y :: pre, x, q, k, h, hn, hx => by
  cases l with
  | nil => simp at h
  | cons a r =>
   cases k with
   | zero => simp at h
   | succ k =>
    rw [List.take_succ_cons, List.cons_append] at h
    injection h with h h2
    rw [List.findSome?_cons, ← h, hn y List.mem_cons_self]
    exact findSome_take h2 (fun j hj => hn j (List.mem_cons_of_mem _ hj)) hx
theorem findSome_fin {β : Type} (c : List Nat) (f : Nat → Option β) : (List.finRange c.length).findSome? (fun j => f c[j.1]) = c.findSome? f := by
 have : (List.finRange c.length).map (fun j => c[j.1]) = c := by
  apply List.ext_getElem
  ·simp
  ·intro i h1 h2
   simp
 conv => rhs; rw [← this]
 rw [List.findSome?_map]
 rfl
def oks (H : Hs) (c : List Nat) (key : ByteArray) (W0 : World) (pre : List (_root_.Fin c.length)) (W : World) : Prop := Below W0.heap.size W0 W ∧ ∀ j ∈ pre, H.ownAt LK AR key c[j.1] = none
def got (w : World) (H : Hs) (c : List Nat) (key : ByteArray) (cd : Code) (pre : List (_root_.Fin c.length)) (W : World) : Prop :=
 cd = .ret ∧ ∃ q pre0 x, pre = pre0 ++ [x] ∧ (∀ j ∈ pre0, H.ownAt LK AR key c[j.1] = none) ∧ H.ownAt LK AR key c[x.1] = some q ∧ Blk W (w.heap.size + 1 + 1) 31 q.cs ∧ W.cell? ⟨w.heap.size + 1 + 1 + 1, 0, none⟩ = some (.bool true) ∧ Below w.heap.size w W
theorem up_mem {os : List Ob} : ∀ (f : Nat) (q : Option Nat) (i : Nat), i ∈ up os f q → i < os.length
 | 0, q, i, h => by cases q <;> simp [up] at h
 | f + 1, none, i, h => by simp [up] at h
 | f + 1, some j, i, h => by
  rw [up] at h
  cases ho : os[j]? with
  | none =>
   rw [ho] at h
   simp at h
  | some o =>
   rw [ho] at h
   rcases List.mem_cons.1 h with rfl | h
   ·exact get_lt ho
   ·exact up_mem f o.proto i h
theorem chain_mem {h : Hs} {q : Option Nat} {i : Nat} (hi : i ∈ h.chain q) : i < h.os.length := up_mem _ _ _ hi
set_option maxRecDepth 8000 in
theorem first_any {w : World} {ow : Nat → Option Nat} {A : Nat} {H : Hs} {L : List OL} (h : PH w A H ow L) (g : Gd H) (v : Vl) (key : ByteArray) (hs : key.size ≤ maxLen) :
  Calls Tryz.prog 60 #[pv A, v.v, .string key] w fun e w' => e = .returned (ownR (H.find LK AR (H.at v) key)) ∧ Below w.heap.size w w' := by
 obtain ⟨vk, vn, vs⟩ := v
 simp only [Vl.v]
 have HC := Lib.hid (chain_any A ⟨vk, vn, vs⟩)
 simp only [Vl.v, Vl.cs] at HC
 obtain ⟨c, hc⟩ : ∃ c, c = H.chain (H.at ⟨vk, vn, vs⟩) := ⟨_, rfl⟩
 have HFD : Hid (H.find LK AR (H.at ⟨vk, vn, vs⟩) key = c.findSome? (H.ownAt LK AR key)) := by rw [hc]; rfl
 have HCH := Lib.hid hc
 have HH := Lib.hid h
 have HG := Lib.hid g
 have HS := Lib.hid hs
 clear hc h g hs
 refine (callsIn_wide (n := 9)).1 ?_
 refine callsIn_of_wp_marks Tryz.func60 rfl trivial ?_ rfl
 simp only [Tryz.ntmps60, List.size_toArray, List.length_cons, List.length_nil, Nat.reduceAdd, Nat.reduceSub, Array.replicate_succ, Array.replicate_zero, List.push_toArray, List.append_toArray, List.nil_append, List.cons_append]
 gi_wp2_with fail
 refine ⟨trivial, (callsIn_wide.2 (HC.out _)).mono ?_⟩
 rintro e w1 ⟨rfl, rfl⟩
 gi_wp2_with fail
 clear HC
 obtain ⟨W0, hW0, hz, hb0, b1, b2, b3, b4, b5⟩ : ∃ W0, (((((w.alloc (.cells #[.int .i64 vk, .int .i64 vn, .string vs] 29)).alloc (.cells #[.string key] 9)).alloc (.cells #[.string ⟨#[]⟩, .int .i64 0, .int .i64 0, .string ⟨#[]⟩, .bool false, .bool false, .bool false] 31)).alloc (.cells #[.bool false] 4)).alloc (.cells #[pv A] 24)).alloc (.cells #[.int .i64 vk, .int .i64 vn, .string vs] 29) = W0 ∧
   W0.heap.size = w.heap.size + 6 ∧ Below w.heap.size w W0 ∧ Blk W0 (w.heap.size + 1) 9 [.string key] ∧ Blk W0 (w.heap.size + 1 + 1) 31 pr0.cs ∧ Blk W0 (w.heap.size + 1 + 1 + 1) 4 [.bool false] ∧ Blk W0 (w.heap.size + 1 + 1 + 1 + 1) 24 [pv A] ∧ Blk W0 (w.heap.size + 1 + 1 + 1 + 1 + 1) 29 [.int .i64 vk, .int .i64 vn, .string vs] := by
  refine ⟨_, rfl, ?_⟩
  obtain ⟨l, hl⟩ : ∃ l, l = [Obj.cells #[.int .i64 vk, .int .i64 vn, .string vs] 29, .cells #[.string key] 9, .cells #[.string ⟨#[]⟩, .int .i64 0, .int .i64 0, .string ⟨#[]⟩, .bool false, .bool false, .bool false] 31, .cells #[.bool false] 4, .cells #[pv A] 24, .cells #[.int .i64 vk, .int .i64 vn, .string vs] 29] := ⟨_, rfl⟩
  have e : (((((w.alloc (.cells #[.int .i64 vk, .int .i64 vn, .string vs] 29)).alloc (.cells #[.string key] 9)).alloc (.cells #[.string ⟨#[]⟩, .int .i64 0, .int .i64 0, .string ⟨#[]⟩, .bool false, .bool false, .bool false] 31)).alloc (.cells #[.bool false] 4)).alloc (.cells #[pv A] 24)).alloc (.cells #[.int .i64 vk, .int .i64 vn, .string vs] 29) = news w l := by rw [hl]; rfl
  rw [e]
  exact ⟨by rw [news_size, hl]; rfl, news_below _ _, news_blk (j := 1) (by rw [hl]; rfl), news_blk (j := 2) (by rw [hl]; rfl), news_blk (j := 3) (by rw [hl]; rfl), news_blk (j := 4) (by rw [hl]; rfl), news_blk (j := 5) (by rw [hl]; rfl)⟩
 rw [hW0]
 clear hW0
 have hx := HH.out.low hb0
 have hlt : ∀ k, ow k ≠ none → k < w.heap.size := HH.out.lt
 have hB1 := b1.lt
 have hB2 := b2.lt
 have hB3 := b3.lt
 have hcal : ∀ (x : _root_.Fin c.length), c[x.1] < L.length ∧ c[x.1] < H.os.length := fun x => by
  have h1 : c[x.1] < H.os.length := chain_mem (q := H.at ⟨vk, vn, vs⟩) (by rw [← HCH.out]; exact List.getElem_mem x.2)
  exact ⟨by rw [HH.out.len]; exact h1, h1⟩
 refine wpIn_rangeFunc_ownG rfl (by omega) (gf := 94) (lb := #[pv (w.heap.size + 1 + 1 + 1 + 1), pv (w.heap.size + 1 + 1 + 1 + 1 + 1)]) rfl trivial (enters_of Tryz.func94 (by kernel_rfl) rfl)
  (chain_seq 8 (by omega) (w.heap.size + 1 + 1 + 1 + 1) (w.heap.size + 1 + 1 + 1 + 1 + 1) ⟨vk, vn, vs⟩ W0 (H.at ⟨vk, vn, vs⟩) rfl c HCH.out.symm (b4.cell rfl) ⟨b5.cell rfl, b5.cell rfl, b5.cell rfl⟩ hx HG.out)
  (fun h k => h.trans k) (fun W l o o' hl h hc hw => ((Fr.refl (Ft ow) W).grown (fun k hk => by have := hlt k hk; have := (Array.getElem?_eq_some_iff.1 h).1; omega) (grownBy_putObj' W l o') (fun k e hk => by cases e; have := hlt _ hk; omega))) (Below.refl _ _) (fun _ => rfl)
  (oks H c key W0) (got w H c key)
  (fun s X Y row hs hg hr => ⟨hs.1.grown hg hs.1.size fun k e => (hr k e).1, hs.2⟩)
  (fun cd s X Y row hs hg hr => by
   obtain ⟨e1, q, pre0, x, e2, e3, e4, e5, e6, e7⟩ := hs
   have hk : X.heap[w.heap.size + 1 + 1 + 1]? = Y.heap[w.heap.size + 1 + 1 + 1]? := by
    obtain ⟨u, hu, -⟩ := cells_of_cell e6
    exact (hg.block _ (Array.getElem?_eq_some_iff.1 hu).1 (fun e => by have := (hr _ e.symm).1; dsimp only at this; omega)).symm
   exact ⟨e1, q, pre0, x, e2, e3, e4, grown_blk e5 hg (fun r e => (hr r e).1) hB2, (World.cell?_of_block (a := ⟨w.heap.size + 1 + 1 + 1, 0, none⟩) hk.symm).trans e6, e7.grown hg e7.size fun k e => by have := (hr k e).1; omega⟩)
  ⟨Below.refl _ _, fun j hj => by cases hj⟩
  (fun x => { tmps := #[pv A, .agg #[.int .i64 vk, .int .i64 vn, .string vs], .string key, undef, .pointer (some ⟨w.heap.size, 0, none⟩), .pointer (some ⟨w.heap.size + 1, 0, none⟩), .pointer (some ⟨w.heap.size + 1 + 1, 0, none⟩), .pointer (some ⟨w.heap.size + 1 + 1 + 1, 0, none⟩), ppv L (some c[x.1]), undef, undef, pv A, .agg #[.int .i64 vk, .int .i64 vn, .string vs],
   .func (.func 94) #[] #[pv (w.heap.size + 1 + 1 + 1 + 1), pv (w.heap.size + 1 + 1 + 1 + 1 + 1)], ppv L (some c[x.1]), undef, undef, undef, undef, undef, undef, undef, undef, undef], defers := [] }) ?assign ?body ?done ?stop
 case assign =>
  intro l x W C hC
  gi_wp2
  exact hC
 case body =>
  rintro l pre x W ⟨hbl, hno⟩ hlen
  obtain ⟨hxL, hxH⟩ := hcal x
  have hW := hx.low hbl
  have hob := hW.ob _ hxL hxH
  have hpi : ppv L (some c[x.1]) = pv L[c[x.1]].b := by simp only [ppv, List.getElem?_eq_getElem hxL]
  rw [hpi]
  have HOW := Lib.hid (own_any hob hW.lt key HS.out)
  have hoa : H.ownAt LK AR key c[x.1] = H.os[c[x.1]].own LK AR key := by
   unfold Hs.ownAt
   rw [List.getElem?_eq_getElem hxH]
   rfl
  have HOA := Lib.hid hoa
  have hkey := (b1.fr (w' := W) (hbl.block _ hB1)).cell (k := 0) rfl
  have H2 := Lib.hid (b2.fr (w' := W) (hbl.block _ hB2))
  have H3 := Lib.hid (b3.fr (w' := W) (hbl.block _ hB3))
  have HBL := Lib.hid hbl
  have HNO := Lib.hid hno
  have HLT : Hid (∀ k, ow k ≠ none → k < W.heap.size) := hW.lt
  have hzW : w.heap.size + 1 + 1 + 1 < W.heap.size := by have := hbl.size; omega
  generalize L[c[x.1]].b = ob at *
  generalize H.os[c[x.1]] = o at *
  clear hob hW hpi hbl hno hx hoa b1 b2 b3 b4 b5 hcal hxL hxH HCH HFD HG HS
  cases hq : o.own LK AR key with
  | none =>
   rw [hq] at HOA HOW
   simp only [ownR, pr0, Pr.v'] at HOW
   gi_wp2_with fail
   refine ⟨trivial, (CallsIn.inRound l (callsIn_wide.2 HOW.out)).mono ?_⟩
   rintro e w1 ⟨rfl, hb⟩
   have HK := Lib.hid hb
   clear hb hkey
   gi_wp2_with fail
   have hb2 := HK.out.trans ((below_new w1 (.cells #[.string ⟨#[]⟩, .int .i64 0, .int .i64 0, .string ⟨#[]⟩, .bool false, .bool false, .bool false] 31)).mono HK.out.size)
   refine ⟨keepsFrom_below hb2, Fr.of hb2 HLT.out, HBL.out.trans (hb2.mono HBL.out.size), fun j hj => ?_⟩
   rcases List.mem_append.1 hj with h | h
   ·exact HNO.out j h
   ·rw [List.mem_singleton.1 h]
    exact HOA.out
  | some q =>
   rw [hq] at HOA HOW
   obtain ⟨qk, ⟨qvk, qvn, qvs⟩, qw, qe, qf⟩ := q
   simp only [ownR, Pr.v'] at HOW
   gi_wp2_with fail
   refine ⟨trivial, (CallsIn.inRound l (callsIn_wide.2 HOW.out)).mono ?_⟩
   rintro e w1 ⟨rfl, hb⟩
   have hb2 := hb.trans ((below_new w1 (.cells #[.string qk, .int .i64 qvk, .int .i64 qvn, .string qvs, .bool qw, .bool qe, .bool qf] 31)).mono hb.size)
   have h2 := H2.out.low hb2
   have h3 := H3.out.low hb2
   have HK := Lib.hid hb2
   obtain ⟨d0, d1, d2, d3, d4, d5, d6⟩ := Blk.seven (p := pr0) h2
   have z2 := h2.fz
   have d7 := h3.cell (k := 0) rfl
   have z3 := h3.fz
   have H4 := Lib.hid h2
   have H5 := Lib.hid h3
   have hzw1 : w.heap.size + 1 + 1 + 1 < w1.heap.size := Nat.lt_of_lt_of_le hzW hb.size
   clear hb hkey hb2 h2 h3
   dsimp only [pr0] at d0 d1 d2 d3 d4 d5 d6
   gi_wp2_with fail
   refine ⟨(((((((((keepsFrom_below HK.out).trans ((KeepsOthers.setCell _ _ _).from _)).trans ((KeepsOthers.setCell _ _ _).from _)).trans ((KeepsOthers.setCell _ _ _).from _)).trans ((KeepsOthers.setCell _ _ _).from _)).trans ((KeepsOthers.setCell _ _ _).from _)).trans ((KeepsOthers.setCell _ _ _).from _)).trans ((KeepsOthers.setCell _ _ _).from _)).trans ((KeepsOthers.setCell _ _ _).from _)), rfl, ⟨qk, ⟨qvk, qvn, qvs⟩, qw, qe, qf⟩, pre, x, rfl, HNO.out, HOA.out, ?_, ?_, ?_⟩
   ·exact (((((((H4.out.set 0 _).set 1 _).set 2 _).set 3 _).set 4 _).set 5 _).set 6 _).other (p := ⟨w.heap.size + 1 + 1 + 1, 0, none⟩) (by simp) _
   ·exact ((((((((H5.out.other (p := ⟨w.heap.size + 1 + 1, 0, none⟩) (by simp) _).other (p := ⟨w.heap.size + 1 + 1, 1, none⟩) (by simp) _).other (p := ⟨w.heap.size + 1 + 1, 2, none⟩) (by simp) _).other (p := ⟨w.heap.size + 1 + 1, 3, none⟩) (by simp) _).other (p := ⟨w.heap.size + 1 + 1, 4, none⟩) (by simp) _).other (p := ⟨w.heap.size + 1 + 1, 5, none⟩) (by simp) _).other (p := ⟨w.heap.size + 1 + 1, 6, none⟩) (by simp) _).set 0 (.bool true)).cell (k := 0) rfl
   ·exact (((((((((hb0.trans (HBL.out.mono hb0.size)).trans (HK.out.mono (by omega))).setCell (p := ⟨w.heap.size + 1 + 1, 0, none⟩) (by simp; omega) _).setCell (p := ⟨w.heap.size + 1 + 1, 1, none⟩) (by simp; omega) _).setCell (p := ⟨w.heap.size + 1 + 1, 2, none⟩) (by simp; omega) _).setCell (p := ⟨w.heap.size + 1 + 1, 3, none⟩) (by simp; omega) _).setCell (p := ⟨w.heap.size + 1 + 1, 4, none⟩) (by simp; omega) _).setCell (p := ⟨w.heap.size + 1 + 1, 5, none⟩) (by simp; omega) _).setCell (p := ⟨w.heap.size + 1 + 1, 6, none⟩) (by simp; omega) _).setCell (p := ⟨w.heap.size + 1 + 1 + 1, 0, none⟩) (by simp; omega) _
 case done =>
  rintro D xs W hD rfl ⟨hbl, hno⟩ hK
  have hnone : c.findSome? (H.ownAt LK AR key) = none := by
   rw [← findSome_fin, List.findSome?_eq_none_iff]
   exact fun j hj => hno j hj
  have HN : Hid (ownR (H.find LK AR (H.at ⟨vk, vn, vs⟩) key) = ownR none) := by show ownR _ = _; rw [HFD.out, hnone]
  have h2 := b2.fr (w' := W) (hbl.block _ hB2)
  have h3 := b3.fr (w' := W) (hbl.block _ hB3)
  obtain ⟨d0, d1, d2, d3, d4, d5, d6⟩ := Blk.seven (p := pr0) h2
  have z2 := h2.fz
  have d7 := h3.cell (k := 0) rfl
  have z3 := h3.fz
  have H4 := Lib.hid h2
  have H5 := Lib.hid h3
  have HB := Lib.hid (hb0.trans (hbl.mono hb0.size))
  have HK := Lib.hid hK
  have hDz : w.heap.size + 1 + 1 + 1 < D := by omega
  dsimp only [pr0] at d0 d1 d2 d3 d4 d5 d6
  clear hno hnone hbl h2 h3 hK hx b1 b2 b3 b4 b5 HH HG HCH HFD
  gi_wp2
  have hK2 : ∀ (V : World) (p : Addr) (u : Value), V.heap[D]? = some (.deferred (some [])) → (V.setCell p u).heap[D]? = some (.deferred (some [])) := fun V p u hv => (KeepsOthers.setCell V p u).same D _ hv rfl
  refine ⟨by simp, .inl ⟨_, _, rfl, run_takeDeferred (hK2 _ _ _ (hK2 _ _ _ (hK2 _ _ _ (hK2 _ _ _ (hK2 _ _ _ (hK2 _ _ _ (hK2 _ _ _ (hK2 _ _ _ HK.out)))))))), ?_⟩⟩
  refine ⟨.tuple #[pr0.v', .bool false], res_pc rfl _ _ (w.heap.size + 1 + 1) (w.heap.size + 1 + 1 + 1) pr0 false (by rfl) (by rfl) ?_ ?_, by rw [HN.out]; rfl, ?_⟩
  ·exact ((((((((H4.out.set 0 _).set 1 _).set 2 _).set 3 _).set 4 _).set 5 _).set 6 _).other (p := ⟨w.heap.size + 1 + 1 + 1, 0, none⟩) (by simp) _).fr (World.putObj_heap_other (by omega))
  ·exact (((((((((H5.out.other (p := ⟨w.heap.size + 1 + 1, 0, none⟩) (by simp) _).other (p := ⟨w.heap.size + 1 + 1, 1, none⟩) (by simp) _).other (p := ⟨w.heap.size + 1 + 1, 2, none⟩) (by simp) _).other (p := ⟨w.heap.size + 1 + 1, 3, none⟩) (by simp) _).other (p := ⟨w.heap.size + 1 + 1, 4, none⟩) (by simp) _).other (p := ⟨w.heap.size + 1 + 1, 5, none⟩) (by simp) _).other (p := ⟨w.heap.size + 1 + 1, 6, none⟩) (by simp) _).set 0 (.bool false)).fr (World.putObj_heap_other (by omega))).cell (k := 0) rfl
  ·exact ((((((((HB.out.setCell (p := ⟨w.heap.size + 1 + 1, 0, none⟩) (by simp; omega) _).setCell (p := ⟨w.heap.size + 1 + 1, 1, none⟩) (by simp; omega) _).setCell (p := ⟨w.heap.size + 1 + 1, 2, none⟩) (by simp; omega) _).setCell (p := ⟨w.heap.size + 1 + 1, 3, none⟩) (by simp; omega) _).setCell (p := ⟨w.heap.size + 1 + 1, 4, none⟩) (by simp; omega) _).setCell (p := ⟨w.heap.size + 1 + 1, 5, none⟩) (by simp; omega) _).setCell (p := ⟨w.heap.size + 1 + 1, 6, none⟩) (by simp; omega) _).setCell (p := ⟨w.heap.size + 1 + 1 + 1, 0, none⟩) (by simp; omega) (.bool false)).trans (below_put _ _ _ _ (by omega) (hK2 _ _ _ (hK2 _ _ _ (hK2 _ _ _ (hK2 _ _ _ (hK2 _ _ _ (hK2 _ _ _ (hK2 _ _ _ (hK2 _ _ _ HK.out)))))))))
 case stop =>
  rintro D cd pre W hD ⟨k, hk⟩ ⟨rfl, q, pre0, x, e2, e3, e4, e5, e6, e7⟩ hK
  have hfind : c.findSome? (H.ownAt LK AR key) = some q := by
   rw [← findSome_fin]
   exact findSome_take (by rw [← e2, hk]) e3 e4
  have HN : Hid (ownR (H.find LK AR (H.at ⟨vk, vn, vs⟩) key) = ownR (some q)) := by show ownR _ = _; rw [HFD.out, hfind]
  have H5 := Lib.hid e5
  have H6 := Lib.hid e6
  have H7 := Lib.hid e7
  have HK := Lib.hid hK
  clear hfind e2 e3 e4 e5 e6 e7 hK hk hx b1 b2 b3 b4 b5 HH HG HCH HFD
  gi_wp2
  refine ⟨by simp, .inl ⟨_, _, rfl, run_takeDeferred HK.out, ?_⟩⟩
  refine ⟨.tuple #[q.v', .bool true], res_pc rfl _ _ (w.heap.size + 1 + 1) (w.heap.size + 1 + 1 + 1) q true (by rfl) (by rfl) ?_ ?_, by rw [HN.out]; rfl, ?_⟩
  ·exact H5.out.fr (World.putObj_heap_other (by omega))
  ·exact (World.cell?_of_block (a := ⟨w.heap.size + 1 + 1 + 1, 0, none⟩) (World.putObj_heap_other (by show w.heap.size + 1 + 1 + 1 ≠ D; omega))).trans H6.out
  ·exact H7.out.trans (below_put _ _ _ _ (by omega) HK.out)
attribute [local go_sem] Oper.semAt_some
def getR : Option Pr → Value
 | some p => .tuple #[p.v.v, .bool true]
 | none => .tuple #[vl0.v, .bool false]
theorem ownR_is2 (o : Option Pr) : ∃ (q : Pr) (b : Bool), ownR o = .tuple #[q.v', .bool b] ∧ getR o = .tuple #[q.v.v, .bool b] ∧ (q = pr0 ∨ o = some q) := by
 cases o with
 | none => exact ⟨pr0, false, rfl, rfl, .inl rfl⟩
 | some q => exact ⟨q, true, rfl, rfl, .inr rfl⟩
theorem find_sp {H : Hs} (g : Gd H) {q : Option Nat} {key : ByteArray} {p : Pr} (h : H.find LK AR q key = some p) : Sp p := by
 unfold Hs.find at h
 obtain ⟨i, hi, hp⟩ := List.exists_of_findSome?_eq_some h
 unfold Hs.ownAt at hp
 cases ho : H.os[i]? with
 | none =>
  rw [ho] at hp
  cases hp
 | some o =>
  rw [ho] at hp
  exact own_sp (g.og i o ho) hp
set_option maxRecDepth 8000 in
theorem get_any {w : World} {ow : Nat → Option Nat} {A : Nat} {H : Hs} {L : List OL} (h : PH w A H ow L) (g : Gd H) (v : Vl) (key : ByteArray) (hs : key.size ≤ maxLen) :
  Calls Tryz.prog 24 #[pv A, v.v, .string key] w fun e w' => e = .returned (getR (H.find LK AR (H.at v) key)) ∧ Below w.heap.size w w' := by
 have h0 := h.low (two_low 29 29 (Vl.cs v) (Vl.cs vl0))
 have HF := Lib.hid (first_any h0 g v key hs)
 have HB := Lib.hid (two_low (w := w) 29 29 (Vl.cs v) (Vl.cs vl0))
 have HR : Hid (Blk ((w.alloc (.cells (Vl.cs v).toArray 29)).alloc (.cells (Vl.cs vl0).toArray 29)) w.heap.size 29 v.cs ∧ Blk ((w.alloc (.cells (Vl.cs v).toArray 29)).alloc (.cells (Vl.cs vl0).toArray 29)) (w.heap.size + 1) 29 (Vl.cs vl0)) := by
  obtain ⟨W0, e, h1, h2, -⟩ := two_new w 29 29 v.cs vl0.cs
  rw [← e] at h1 h2
  exact ⟨h1, h2⟩
 obtain ⟨q, b, hq1, hq3, hq2⟩ := ownR_is2 (H.find LK AR (H.at v) key)
 have hsp : Sp q := by
  rcases hq2 with rfl | hq2
  ·exact sp0
  ·exact find_sp g hq2
 have HQ := Lib.hid hq3
 rw [hq1] at HF
 have HC := Lib.hid (fun w => copyVal_any q.v w (by have := hsp.2; unfold Sv at this; omega))
 clear h0 h g hs hq1 hq2 hq3 hsp
 obtain ⟨vk, vn, vs⟩ := v
 obtain ⟨qk, ⟨qvk, qvn, qvs⟩, qw, qe, qf⟩ := q
 simp only [Vl.v, Vl.cs, vl0, Pr.v'] at HF HB HR HC HQ ⊢
 go_enter Tryz.func24, Tryz.ntmps24
 go_wp2_with fail
 refine HF.out.mono ?_
 rintro e w1 ⟨rfl, hb⟩
 have H2 := Lib.hid (HR.out.2.low hb)
 have H3 := Lib.hid (HB.out.trans (hb.mono HB.out.size))
 have hb2 := below_new w1 (.cells #[.string qk, .int .i64 qvk, .int .i64 qvn, .string qvs, .bool qw, .bool qe, .bool qf] 31)
 have H6 := Lib.hid (H2.out.low hb2)
 have H7 := Lib.hid (H3.out.trans (hb2.mono H3.out.size))
 clear hb HR HB HF hb2 H2 H3
 go_wp2_with fail
 refine (HC.out _).mono ?_
 rintro e w3 ⟨rfl, hb⟩
 have H8 := Lib.hid (H6.out.low hb)
 have H9 := Lib.hid (H7.out.trans (hb.mono H7.out.size))
 clear hb H6 H7 HC
 obtain ⟨d0, d1, d2⟩ := Blk.three (v := vl0) H8.out
 have z2 := H8.out.fz
 dsimp only [vl0] at d0 d1 d2
 go_wp2_with fail
 refine bodyPost_ret (res_vt rfl _ _ (w.heap.size + 1) ⟨qvk, qvn, qvs⟩ _ (by rfl) (by rfl) ?_) rfl ⟨by rw [HQ.out]; rfl, ?_⟩
 ·exact ((H8.out.set 0 _).set 1 _).set 2 _
 ·exact ((H9.out.setCell (p := ⟨w.heap.size + 1, 0, none⟩) (Nat.le_succ _) _).setCell (p := ⟨w.heap.size + 1, 1, none⟩) (Nat.le_succ _) _).setCell (p := ⟨w.heap.size + 1, 2, none⟩) (Nat.le_succ _) _
end Go.Proofs.YtcahijpbkjplmaaGreatDoor.G
