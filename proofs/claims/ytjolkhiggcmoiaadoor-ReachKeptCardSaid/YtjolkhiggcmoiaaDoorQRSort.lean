/-
  Cells sorted by the library.
-/
import Derived.Test.YtjolkhiggcmoiaaDoorQCanon
import Derived.Test.YtjolkhiggcmoiaaDoorSortLay
import Derived.Shelf.SlSortCmp.NoneTotal
namespace Go.Proofs.YtjolkhiggcmoiaaDoor
open Go.RowKit Go.Sort Go.Shelf
set_option linter.unusedVariables false
set_option linter.unusedSimpArgs false
theorem flat_len2 {α : Type} (f : α → List Value) (k : Nat) (hf : ∀ x, (f x).length = k) (l : List α) : (l.flatMap f).length = l.length * k := by
  induction l with
  | nil => simp
  | cons x l ih => rw [List.flatMap_cons, List.length_append, ih, hf, List.length_cons, Nat.succ_mul]; omega
theorem flat_get2 {α : Type} (f : α → List Value) (k : Nat) (hf : ∀ x, (f x).length = k) : ∀ (l : List α) (i j : Nat) (x : α), l[i]? = some x → j < k → (l.flatMap f)[i * k + j]? = (f x)[j]?
  | y :: l, 0, j, x, h, hj => by
    simp only [List.getElem?_cons_zero, Option.some.injEq] at h
    subst h
    rw [List.flatMap_cons, List.getElem?_append_left (by rw [hf]; omega), Nat.zero_mul, Nat.zero_add]
  | y :: l, i + 1, j, x, h, hj => by
    rw [List.getElem?_cons_succ] at h
    rw [List.flatMap_cons, List.getElem?_append_right (by rw [hf, Nat.succ_mul]; omega), hf, show (i + 1) * k + j - k = i * k + j by rw [Nat.succ_mul]; omega]
    exact flat_get2 f k hf l i j x h hj
section
variable {α : Type} [Inhabited α] (enc : α → List Value) (k : Nat)
theorem flat_list (hk : ∀ x, (enc x).length = k) (l : List α) : (flatK enc k l.toArray).toList = l.flatMap enc := by
  apply List.ext_getElem?
  intro j
  by_cases hj : j < l.length * k
  · have h0 : 0 < k := by
      rcases Nat.eq_zero_or_pos k with h | h
      · subst h; omega
      · exact h
    have hi : j / k < l.length := Nat.div_lt_of_lt_mul (by rw [Nat.mul_comm]; exact hj)
    have hr : j % k < k := Nat.mod_lt _ h0
    have e : j / k * k + j % k = j := by rw [Nat.mul_comm]; exact Nat.div_add_mod j k
    have h1 := flat_get2 enc k hk l (j / k) (j % k) _ (List.getElem?_eq_getElem hi) hr
    rw [e] at h1
    have hs : j < (flatK enc k l.toArray).size := by simpa using hj
    have h2 := get_flatK enc k l.toArray j (by simpa using hj)
    rw [getElem!_pos (flatK enc k l.toArray) j hs] at h2
    have ha : l.toArray[j / k]! = l[j / k] := by rw [getElem!_pos l.toArray (j / k) (by simpa using hi)]; simp
    rw [ha, getElem!_pos (enc l[j / k]) (j % k) (by rw [hk]; exact hr)] at h2
    rw [h1, Array.getElem?_toList, Array.getElem?_eq_getElem hs, h2, List.getElem?_eq_getElem (by rw [hk]; exact hr)]
  · have h1 : (flatK enc k l.toArray).toList.length ≤ j := by simp; omega
    have h2 : (l.flatMap enc).length ≤ j := by rw [flat_len2 enc k hk]; omega
    rw [List.getElem?_eq_none h1, List.getElem?_eq_none h2]
theorem sort_far (w : World) (g m : Nat) (dk : Array α) (os : Array Obj) : Far (fun b => b = g) w (sortWorldK enc k w g 0 m dk os) := by
  unfold sortWorldK
  refine ⟨rfl, rfl, rfl, by simp [grow, putRowK], fun b hb hne => ?_⟩
  have h1 : (putRowK enc k (Sort.ahead w m) g 0 dk).heap.size = w.heap.size := by simp [putRowK]
  have h2 : g ≠ b := fun e => hne e.symm
  rw [show (grow (putRowK enc k (Sort.ahead w m) g 0 dk) os).heap = (putRowK enc k (Sort.ahead w m) g 0 dk).heap ++ os from rfl, Array.getElem?_append_left (by omega)]
  simp [putRowK, putRow, mapBlock, Sort.ahead, Array.getElem?_modify, h2]
theorem sort_block (w : World) (g m : Nat) (dk : Array α) (os : Array Obj) {cur : Array Value} {e : TypeId} {fr : Nat × Nat} (hb : w.heap[g]? = some (.cells cur e fr)) : (sortWorldK enc k w g 0 m dk os).heap[g]? = some (.cells (putCells id 0 (flatK enc k dk) cur) e fr) := by
  have hg : g < w.heap.size := (Array.getElem?_eq_some_iff.1 hb).1
  unfold sortWorldK
  rw [show (grow (putRowK enc k (Sort.ahead w m) g 0 dk) os).heap = (putRowK enc k (Sort.ahead w m) g 0 dk).heap ++ os from rfl, Array.getElem?_append_left (by simp [putRowK]; omega)]
  simp [putRowK, putRow, mapBlock, Sort.ahead, Array.getElem?_modify, hb, onCells]
theorem take_put (cur f : Array Value) (h : f.size ≤ cur.size) : (putCells id 0 f cur).toList.take f.size = f.toList := by
  apply List.ext_getElem?
  intro j
  by_cases hj : j < f.size
  · rw [List.getElem?_take_of_lt hj, Array.getElem?_toList, Array.getElem?_toList]
    simp [putCells, hj, show j < cur.size by omega]
  · rw [List.getElem?_take_eq_none (by omega), List.getElem?_eq_none (by simp; omega)]
end
def RGrew (w w' : World) : Prop := ∃ q os, w' = Sort.grow (w.drewN q) os
theorem RGrew.refl (w : World) : RGrew w w := ⟨0, #[], by simp [Sort.grow, World.drewN]⟩
theorem RGrew.two (w : World) (o o' : Obj) : RGrew w ((w.alloc o).alloc o') := by
  refine ⟨0, #[o] ++ #[o'], ?_⟩
  rw [Sort.alloc_eq_grow, Sort.alloc_eq_grow, Sort.grow_grow]
  rfl
abbrev MemC (T : List (Nat × Nat)) := { t : Nat × Nat // t ∈ T }
def encC2 {T : List (Nat × Nat)} (x : MemC T) : List Value := [.int .i64 (x.1.1 : Nat), .int .i64 (x.1.2 : Nat)]
/-- The order of cells. -/
def cfC (x y : Nat × Nat) : Int := if x.1 = y.1 then (x.2 : Int) - (y.2 : Int) else (x.1 : Int) - (y.1 : Int)
theorem cfC_lt {x y : Nat × Nat} : cfC x y < 0 ↔ lexLt x y := by
  unfold cfC lexLt
  split <;> omega
theorem cfC_swo (T : List (Nat × Nat)) : SWO (ltOf fun x y : MemC T => cfC x.1 y.1) where
  irrefl := fun x => by
    unfold ltOf cfC
    simp
  trans := fun x y z h1 h2 => by
    unfold ltOf at *
    rw [decide_eq_true_eq, cfC_lt] at *
    unfold lexLt at *
    omega
  ntrans := fun x y z h1 h2 => by
    unfold ltOf at *
    rw [decide_eq_false_iff_not, cfC_lt] at *
    unfold lexLt at *
    omega
theorem attach_ccells (T : List (Nat × Nat)) : T.attach.flatMap encC2 = ccells T := by
  have h : ccells T = ccells (T.attach.map Subtype.val) := by rw [List.attach_map_subtype_val]
  rw [h]
  unfold encC2 ccells
  rw [List.flatMap_map]
  rfl
section
set_option maxHeartbeats 4000000
set_option maxRecDepth 100000
theorem rise_any (r c r' c' : Nat) (h1 : r < 1024) (h2 : c < 1024) (h3 : r' < 1024) (h4 : c' < 1024) (w : World) :
    Calls Tryd.prog 75 #[.agg #[.int .i64 (r : Nat), .int .i64 (c : Nat)], .agg #[.int .i64 (r' : Nat), .int .i64 (c' : Nat)]] w fun e w' => e = .returned (.int .i64 (cfC (r, c) (r', c'))) ∧ RGrew w w' := by
  unfold cfC
  dsimp only
  by_cases e : r = r'
  · rw [if_pos e]
    obtain ⟨d, hd⟩ : ∃ d, (c : Int) - (c' : Int) = d := ⟨_, rfl⟩
    have hw1 : IntKind.i64.wrap d = d := by rw [IntKind.wrap_i64]; omega
    have ne1 : ((r : Int) != (r' : Int)) = false := by simp; omega
    have hd' := hd
    rw [hd']
    go_enter Tryd.func75, Tryd.ntmps75
    go_wp2_with fail
    go_ret
    exact ⟨rfl, RGrew.two _ _ _⟩
  · rw [if_neg e]
    obtain ⟨d, hd⟩ : ∃ d, (r : Int) - (r' : Int) = d := ⟨_, rfl⟩
    have hw1 : IntKind.i64.wrap d = d := by rw [IntKind.wrap_i64]; omega
    have ne1 : ((r : Int) != (r' : Int)) = true := by simp; omega
    have ne2 : ¬ (r : Int) = (r' : Int) := by omega
    have hd' := hd
    rw [hd']
    go_enter Tryd.func75, Tryd.ntmps75
    go_wp2_with fail
    go_ret
    exact ⟨rfl, RGrew.two _ _ _⟩
end
/-- The slice is sorted: what it held, in the order of cells. -/
theorem csort_any (B : Nat) (pv : Value) (T : List (Nat × Nat)) (w : World) (hP : w.ownsRow B 61 2 pv T.length (ccells T)) (hb : ∀ x ∈ T, x.1 < 1024 ∧ x.2 < 1024) (hs : T.length ≤ 1048576) :
    Calls Tryd.prog 74 #[pv, .func (.func 75) #[] #[]] w fun e w' => e = .returned (.tuple #[]) ∧ ∃ T', T'.Perm T ∧ T'.Pairwise (fun x y => ¬ lexLt y x) ∧ w'.ownsRow B 61 2 pv T'.length (ccells T') ∧ Far (fun k => pv.ownBlock = some k) w w' := by
  by_cases h0 : T = []
  · subst h0
    obtain ⟨ao, c, rfl⟩ := q_form hP
    have hS := AnyF.slices_SortFunc_none (P := Tryd.prog) { Tryd.sortC with } ao c (.func (.func 75) #[] #[]) w
    refine Calls.mono hS ?_
    rintro e w' ⟨rfl, rfl⟩
    exact ⟨rfl, [], List.Perm.refl _, List.Pairwise.nil, hP, Far.refl _ _⟩
  · rcases hP.2 with ⟨_, hn⟩ | ⟨g, cap, cur, rfl, hB, hbk, hcap, hmax, hsz, htk⟩
    · exact absurd (List.eq_nil_of_length_eq_zero hn) h0
    · obtain ⟨t0, ht0⟩ : ∃ t, t ∈ T := List.exists_mem_of_ne_nil T h0
      letI : Inhabited (MemC T) := ⟨⟨t0, ht0⟩⟩
      have hgl : g < w.heap.size := (Array.getElem?_eq_some_iff.1 hbk).1
      have hla : T.attach.toArray.size = T.length := by simp
      have hH : HoldsK (encC2 (T := T)) 2 w g 0 T.attach.toArray := by
        intro j hj
        have hj' : j < T.length * 2 := by simpa using hj
        have e1 := flat_list (encC2 (T := T)) 2 (fun _ => rfl) T.attach
        rw [attach_ccells] at e1
        refine ⟨?_, frozen_of_row w g (0 + j) cur _ hbk⟩
        rw [Nat.zero_add, cell_of_row w g j cur _ (0, 0) hbk, ← Array.getElem?_toList, ← List.getElem?_take_of_lt (show j < T.length * 2 from hj'), htk, ← e1, Array.getElem?_toList, getElem!_pos _ j hj, Array.getElem?_eq_getElem hj]
        rfl
      have hcmp : CmpLays Tryd.prog 75 #[] (encC2 (T := T)) 2 (fun x y : MemC T => cfC x.1 y.1) g 0 T.attach.toArray.size w := fun m os dk hdk x y =>
        rise_any x.1.1 x.1.2 y.1.1 y.1.2 (hb _ x.2).1 (hb _ x.2).2 (hb _ y.2).1 (hb _ y.2).2 _
      have hcon := AnyQ.slices_SortFunc Tryd.sortC 2 Tryd.isAgg61 Tryd.sizeOf61 (encC2 (T := T)) (fun _ => rfl) (fun x v hv => by
        simp [encC2] at hv
        rcases hv with rfl | rfl <;> rfl) (fun x y : MemC T => cfC x.1 y.1) (cfC_swo T) 75 #[] g 0 cap T.attach.toArray w (enters_of Tryd.func75 (by kernel_rfl) rfl) hcmp hH hgl (by rw [hla]; omega)
      rw [hla] at hcon
      refine Calls.mono hcon ?_
      rintro e w' ⟨rfl, d', n, os, hp, hsd, rfl⟩
      have hd : d'.size = T.length := by rw [hp.1, hla]
      have hx1 : d'.extract 0 T.length = d' := by rw [← hd]; simp
      have hx2 : T.attach.toArray.extract 0 T.length = T.attach.toArray := by have := Array.extract_size (xs := T.attach.toArray); rwa [hla] at this
      have hperm : d'.toList.Perm T.attach := by have := hp.2.2; rw [hx1, hx2] at this; simpa using this
      have hpt : (d'.toList.map Subtype.val).Perm T := by have := hperm.map Subtype.val; rwa [List.attach_map_subtype_val] at this
      have hlen : (d'.toList.map Subtype.val).length = T.length := by simp [hd]
      refine ⟨rfl, d'.toList.map Subtype.val, hpt, ?_, ?_, (sort_far _ 2 w g n d' os).mono fun k _ e => by rw [e]; rfl⟩
      · rw [List.pairwise_map, List.pairwise_iff_getElem]
        intro i j hi hj hij
        have hi' : i < d'.size := by simpa using hi
        have hj' : j < d'.size := by simpa using hj
        have := hsd i j (Nat.zero_le _) hij (by omega)
        rw [getElem!_pos d' i hi', getElem!_pos d' j hj'] at this
        have h1 : ¬ cfC d'[j].1 d'[i].1 < 0 := by simpa [ltOf] using this
        simp only [Array.getElem_toList]
        exact fun h => h1 (cfC_lt.2 h)
      · rw [hlen]
        refine ⟨by rw [ccells_len, hlen], .inr ⟨g, cap, _, rfl, hB, sort_block _ 2 w g n d' os hbk, hcap, hmax, by simp [putCells, hsz], ?_⟩⟩
        have e1 := flat_list (encC2 (T := T)) 2 (fun _ => rfl) d'.toList
        have e2 : (flatK (encC2 (T := T)) 2 d').size = T.length * 2 := by simp [hd]
        have e3 := take_put cur (flatK (encC2 (T := T)) 2 d') (by rw [e2, hsz]; exact Nat.mul_le_mul_right 2 hcap)
        rw [e2] at e3
        rw [e3]
        simp only [Array.toArray_toList] at e1
        rw [e1]
        unfold encC2 ccells
        rw [List.flatMap_map]
        rfl
/-- Of cells that are told once each, sorted: the matrix's own list. -/
theorem sorted_cells {T T' : List (Nat × Nat)} {D : Nat → Nat → Bool} {s : Nat} (hp : T'.Perm T) (hr : T'.Pairwise fun x y => ¬ lexLt y x) (hn : T.Nodup) (hm : ∀ x, x ∈ T ↔ D x.1 x.2 = true) (hw : ∀ r c, D r c = true → r < s ∧ c < s) : T' = cellsL D s := by
  have hn' : T'.Nodup := hp.nodup_iff.2 hn
  have hr' : T'.Pairwise lexLt := (hr.and hn').imp fun {x y} ⟨h1, h2⟩ => by
    unfold lexLt at *
    have : x.1 ≠ y.1 ∨ x.2 ≠ y.2 := by
      by_cases e1 : x.1 = y.1
      · exact .inr fun e2 => h2 (Prod.ext e1 e2)
      · exact .inl e1
    omega
  exact (rise_eq (cellsK_rise D s s) hr' fun x => (mem_cellsL hw).trans ((hm x).symm.trans hp.mem_iff.symm)).symm
end Go.Proofs.YtjolkhiggcmoiaaDoor
