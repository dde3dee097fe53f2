/-
  slices.DeleteFunc of properties, by the library's contract: the closure tells one property.
-/
import Derived.Test.YtcahijpbkjplmaaGreatDoorMQd
import Derived.Shelf.SlicesE.DeleteFunc
namespace Go.Proofs.YtcahijpbkjplmaaGreatDoor.G
open Go.RowKit Go.Shelf Go.Maps Go.Lib Go.Sort Go.Proofs.YtcahijpbkjplmaaGreatDoor

def delRen : Go.Shelf.Ren := ⟨fun | 6 => 100 | 10 => 92 | n => n, fun | 0 => 0 | 3 => 3 | 4 => 4 | 22 => 121 | 23 => 79 | 25 => 114 | n => n, fun | n => n⟩
theorem delLays : SlLaysH.n10 Tryz.prog delRen := {
  mixed := by kernel_rfl
  f6 := ⟨Tryz.f100.name, by kernel_rfl, Tryz.func100.trans (congrArg some (by kernel_rfl))⟩
  f10 := ⟨Tryz.f92.name, by kernel_rfl, Tryz.func92.trans (congrArg some (by kernel_rfl))⟩
  t0 := Tryz.underlying0
  a0 := Tryz.isAgg0
  z0 := Tryz.sizeOf0
  v0 := Tryz.zeroValue0
  t3 := Tryz.underlying3
  a3 := Tryz.isAgg3
  z3 := Tryz.sizeOf3
  v3 := Tryz.zeroValue3
  t4 := Tryz.underlying4
  a4 := Tryz.isAgg4
  z4 := Tryz.sizeOf4
  v4 := Tryz.zeroValue4
  t22 := Tryz.underlying121
  a22 := Tryz.isAgg121
  z22 := Tryz.sizeOf121
  v22 := Tryz.zeroValue121
  a23 := Tryz.isAgg79
  z23 := Tryz.sizeOf79
  t25 := Tryz.underlying114
  a25 := Tryz.isAgg114
  z25 := Tryz.sizeOf114
  v25 := Tryz.zeroValue114 }
def encO (pb : List Nat) : Option {b : Nat // b ∈ pb} → Value
  | none => .pointer none
  | some b => pv b.1
theorem encO_one (pb : List Nat) : OneCell (encO pb) := fun x => by cases x <;> rfl
theorem nil_eql (w : World) (b : Addr) : (binOp .eql 79 (.pointer none) (av b)).run Tryz.prog w = .ok (.bool false) w := by
  simp only [binOp]
  have hp := Tryz.underlying79
  have h : ∀ d : Nat, (Op.equalIn (d + 1) 79 (.pointer none) (.pointer (some b))).run Tryz.prog w = .ok false w := fun d => by
    simp [Op.equalIn, run_underlying hp]
  simp [Op.equal, Op.maxDepth, h 9999]
theorem sameA (a b : Nat) : decide ((⟨a, 0, none⟩ : Addr) = ⟨b, 0, none⟩) = decide (a = b) := by
  by_cases h : a = b
  · subst h
    rw [decide_eq_true rfl, decide_eq_true rfl]
  · rw [decide_eq_false h, decide_eq_false fun e => h (congrArg Addr.block e)]
theorem sameO {pb : List Nat} (c b : {b : Nat // b ∈ pb}) : decide ((⟨c.1, 0, none⟩ : Addr) = ⟨b.1, 0, none⟩) = decide (some c = some b) := by
  rw [sameA]
  by_cases h : c.1 = b.1
  · rw [decide_eq_true h, decide_eq_true (congrArg some (Subtype.ext h))]
  · rw [decide_eq_false h, decide_eq_false fun e => h (congrArg Subtype.val (Option.some.inj e))]
theorem sameS {pb : List Nat} (c b : {b : Nat // b ∈ pb}) : decide (c = b) = decide (some c = some b) := by
  by_cases h : c = b
  · rw [decide_eq_true h, decide_eq_true (congrArg some h)]
  · rw [decide_eq_false h, decide_eq_false fun e => h (Option.some.inj e)]
theorem gives {pb : List Nat} (b0 : {b : Nat // b ∈ pb}) (cb : Nat) (W : World) (hc : W.cell? ⟨cb, 0, none⟩ = some (pv b0.1)) (hB : ∀ c ∈ pb, ∃ T xs, Blk W c T xs) (x : Option {b : Nat // b ∈ pb}) :
    FnGives Tryz.prog 93 #[.pointer (some ⟨cb, 0, none⟩)] #[encO pb x] (.bool (decide (x = some b0))) W := by
  show Calls Tryz.prog 93 #[encO pb x, .pointer (some ⟨cb, 0, none⟩)] W _
  cases x with
  | none =>
    have he := nil_eql W ⟨b0.1, 0, none⟩
    rw [show decide ((none : Option {b : Nat // b ∈ pb}) = some b0) = false from rfl]
    show Calls Tryz.prog 93 #[.pointer none, .pointer (some ⟨cb, 0, none⟩)] W _
    go_enter Tryz.func93, Tryz.ntmps93
    go_wp2_with fail
    refine bodyPost_ret (results_tmp rfl _ _ _) rfl ⟨rfl, 0, rfl⟩
  | some c =>
    obtain ⟨T, xs, h1⟩ := hB c.1 c.2
    obtain ⟨T', ys, h2⟩ := hB b0.1 b0.2
    have he := ptr_eql W (a := ⟨c.1, 0, none⟩) (b := ⟨b0.1, 0, none⟩) h1 h2
    have e := sameO c b0
    rw [e] at he
    show Calls Tryz.prog 93 #[pv c.1, .pointer (some ⟨cb, 0, none⟩)] W _
    clear h1 h2 hB
    go_enter Tryz.func93, Tryz.ntmps93
    go_wp2_with fail
    refine bodyPost_ret (results_tmp rfl _ _ _) rfl ⟨?_, 0, rfl⟩
    exact congrArg (fun b => Ending.returned (Value.bool b)) (sameS c b0)
theorem take_putO {pb : List Nat} (cur : Array Value) (ts us : List (Option {b : Nat // b ∈ pb})) (h : (ts ++ us).length ≤ cur.size) : (putCells (encO pb) 0 (ts ++ us).toArray cur).toList.take ts.length = ts.map (encO pb) := by
  rw [List.length_append] at h
  apply List.ext_getElem?
  intro j
  by_cases hj : j < ts.length
  · rw [List.getElem?_take_of_lt hj, Array.getElem?_toList]
    have h1 : j < cur.size := by omega
    have h2 : j < (ts ++ us).length := by rw [List.length_append]; omega
    have h3 : (ts ++ us).toArray[j]! = ts[j] := by
      rw [getElem!_pos _ j (by simpa using h2)]
      simp [List.getElem_append_left hj]
    simp only [putCells, Array.getElem?_mapIdx, Array.getElem?_eq_getElem h1, Option.map_some, Nat.zero_le, true_and, Nat.zero_add, Nat.sub_zero, List.size_toArray, h2, if_true, h3, List.getElem?_map, List.getElem?_eq_getElem hj]
  · rw [List.getElem?_take_eq_none (by omega), List.getElem?_eq_none (by simp; omega)]
theorem heap_putO {pb : List Nat} {w : World} {g q : Nat} {cur : Array Value} {e : TypeId} {fr : Nat × Nat} (d : Array (Option {b : Nat // b ∈ pb})) (hb : w.heap[g]? = some (.cells cur e fr)) :
    (putRow (encO pb) (Sort.ahead w q) g 0 d).heap[g]? = some (.cells (putCells (encO pb) 0 d cur) e fr) := by
  simp [putRow, mapBlock, Sort.ahead, Array.getElem?_modify, hb, onCells]
theorem grown_putO {pb : List Nat} {w : World} {g q : Nat} (d : Array (Option {b : Nat // b ∈ pb})) : w.grownBy (putRow (encO pb) (Sort.ahead w q) g 0 d) (some g) := by
  refine ⟨rfl, rfl, rfl, by simp, fun k hk hne => ?_⟩
  have : g ≠ k := fun e => hne (by rw [e])
  simp [putRow, mapBlock, Sort.ahead, Array.getElem?_modify, this]
/-- the row without one property -/
theorem dele_any {w : World} {nv : Value} {bs pb : List Nat} (hr : w.ownsRow 0 79 1 nv bs.length (bs.map pv)) (hne : bs ≠ []) (hbs : ∀ b ∈ bs, b ∈ pb) {b0 : Nat} (hb0 : b0 ∈ pb) {cb : Nat} (hc : w.cell? ⟨cb, 0, none⟩ = some (pv b0))
    (hcr : nv.ownBlock ≠ some cb) (hB : ∀ c ∈ pb, ∃ T xs, Blk w c T xs) (hpr : ∀ c ∈ pb, nv.ownBlock ≠ some c) (hlen : bs.length ≤ maxLen) :
    Calls Tryz.prog 92 #[nv, .func (.func 93) #[] #[pv cb]] w fun e w' => ∃ nv', e = .returned nv' ∧
      w'.ownsRow 0 79 1 nv' (bs.filter fun c => !decide (c = b0)).length ((bs.filter fun c => !decide (c = b0)).map pv) ∧ nv'.ownBlock = nv.ownBlock ∧ w.grownBy w' nv.ownBlock := by
  obtain ⟨hxs, hr2⟩ := hr
  rcases hr2 with ⟨-, h0⟩ | ⟨g, cap, cur, rfl, -, hg, hn, hcap, hcur, htk⟩
  · exact absurd (List.eq_nil_of_length_eq_zero h0) hne
  rw [Nat.mul_one] at hcur htk
  have hcr' : g ≠ cb := fun e => hcr (by rw [← e]; rfl)
  have hpr' : ∀ c ∈ pb, g ≠ c := fun c h e => hpr c h (by rw [← e]; rfl)
  obtain ⟨L, hL⟩ : ∃ L : List {b : Nat // b ∈ pb}, bs = L.map (·.1) := ⟨bs.attachWith _ hbs, by simp⟩
  subst hL
  have hcellB : ∀ W : World, (∀ c ∈ pb, W.heap[c]? = w.heap[c]?) → ∀ c ∈ pb, ∃ T xs, Blk W c T xs := fun W hW c h => by
    obtain ⟨T, xs, hb⟩ := hB c h
    exact ⟨T, xs, hb.fr (hW c h)⟩
  have hcb : cb < w.heap.size := by
    obtain ⟨u, hu, -⟩ := cells_of_cell hc
    exact (Array.getElem?_eq_some_iff.1 hu).1
  have hlt : ∀ c ∈ pb, c < w.heap.size := fun c h => by
    obtain ⟨T, xs, hb⟩ := hB c h
    exact hb.lt
  have hp : PredAt Tryz.prog 93 #[pv cb] (encO pb) (fun x => decide (x = some ⟨b0, hb0⟩)) w := fun W x hb => gives ⟨b0, hb0⟩ cb W ((hb.cell (p := ⟨cb, 0, none⟩) hcb).trans hc) (hcellB W fun c h => hb.block c (hlt c h)) x
  have hgl : g < w.heap.size := (Array.getElem?_eq_some_iff.1 hg).1
  have hpo : PredOver Tryz.prog 93 #[pv cb] (encO pb) (fun x => decide (x = some ⟨b0, hb0⟩)) g 0 (L.map some).toArray.size w := fun n os dk x _ => by
    refine gives ⟨b0, hb0⟩ cb _ ?_ (hcellB _ fun c h => ?_) x
    · unfold sortWorld
      rw [cell?_grow _ _ _ (by show cb < (putRow _ _ _ _ _).heap.size; rw [size_putRow]; exact hcb), cell?_putRow_other _ _ g 0 _ _ (Or.inl (Ne.symm hcr'))]
      exact hc
    · unfold sortWorld
      rw [Sort.heap_grow_old _ _ (by rw [size_putRow]; exact hlt c h)]
      exact (grown_putO (q := n) dk).block c (hlt c h) (fun e => hpr' c h (Option.some.inj e).symm)
  have hcell : ∀ j (hj : j < L.length), cur[j]? = some (pv L[j].1) := fun j hj => by
    have : ((L.map (·.1)).map pv)[j]? = some (pv L[j].1) := by simp [List.getElem?_eq_getElem hj]
    rw [← htk, List.getElem?_take_of_lt (by rw [List.length_map]; exact hj), Array.getElem?_toList] at this
    exact this
  have hH : Holds (encO pb) w g 0 (L.map some).toArray := fun j hj => by
    have hj' : j < L.length := by simpa using hj
    refine ⟨?_, ?_⟩
    · rw [Nat.zero_add, getElem!_pos _ j hj]
      unfold World.cell?
      rw [hg]
      simpa [encO] using hcell j hj'
    · unfold World.frozen?
      rw [hg]
      simp
  have hsz : (L.map some).toArray.size = L.length := by simp
  have hln : (L.map (·.1)).length = L.length := by simp
  rw [hln] at hn hlen ⊢
  have hc1 := AnyE.slices_DeleteFunc delLays (encO pb) (encO_one pb) (fun x => decide (x = some ⟨b0, hb0⟩)) 93 #[pv cb] (enters_of Tryz.func93 (by kernel_rfl) rfl) none Tryz.zeroValue79 g 0 cap (L.map some).toArray w hp hpo hH (by rw [hsz]; unfold maxLen at hlen; omega) (by rw [hsz]; exact hn)
  rw [hsz] at hc1
  have hf : (L.map some).toArray.toList.filter (fun x => !decide (x = some (⟨b0, hb0⟩ : {b : Nat // b ∈ pb}))) = (L.filter fun c => !decide (c.1 = b0)).map some := by
    show (L.map some).filter _ = _
    rw [List.filter_map]
    congr 2
    funext c
    show (!decide (some c = some _)) = _
    congr 2
    exact propext ⟨fun e => by rw [Option.some.inj e], fun e => by congr 1; exact Subtype.ext e⟩
  have hfb : (L.map (·.1)).filter (fun c => !decide (c = b0)) = (L.filter fun c => !decide (c.1 = b0)).map (·.1) := by
    rw [List.filter_map]
    rfl
  rw [hf] at hc1
  rw [hfb]
  refine hc1.mono ?_
  rintro e w' ⟨rfl, q, rfl⟩
  have hle : (L.filter fun c => !decide (c.1 = b0)).length ≤ L.length := List.length_filter_le _ _
  refine ⟨_, rfl, ⟨by simp, .inr ⟨g, cap, _, by simp, Nat.zero_le _, heap_putO _ hg, by simp; omega, hcap, by simp [putCells, hcur], ?_⟩⟩, rfl, grown_putO _⟩
  rw [Nat.mul_one]
  have := take_putO cur ((L.filter fun c => !decide (c.1 = b0)).map some) (List.replicate (L.length - ((L.filter fun c => !decide (c.1 = b0)).map some).length) none) (by simp; omega)
  simp only [List.length_map] at this ⊢
  rw [this, List.map_map, List.map_map]
  rfl
end Go.Proofs.YtcahijpbkjplmaaGreatDoor.G
