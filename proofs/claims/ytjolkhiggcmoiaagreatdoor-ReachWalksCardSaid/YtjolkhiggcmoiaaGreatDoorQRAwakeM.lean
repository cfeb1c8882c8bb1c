/-
  QRAwakeM: QRSort, QRKAdd, QRAwake.
-/
import Derived.Test.YtjolkhiggcmoiaaGreatDoorQCanon
import Derived.Test.YtjolkhiggcmoiaaGreatDoorSortLay
import Derived.Shelf.SlSortCmp.NoneTotal
import Derived.Test.YtjolkhiggcmoiaaGreatDoorQRAdd
/-! ## QRSort: Cells sorted by the library. -/
namespace Go.Proofs.YtjolkhiggcmoiaaGreatDoor
open Go.RowKit Go.Sort Go.Shelf
set_option linter.unusedVariables false
set_option linter.unusedSimpArgs false
theorem flat_len2 {α : Type} (f : α → List Value) (k : Nat) (hf : ∀ x, (f x).length = k) (l : List α) : (l.flatMap f).length = l.length * k := by
  induction l with
  | nil => simp
  | cons x l ih => rw [List.flatMap_cons, List.length_append, ih, hf, List.length_cons, Nat.succ_mul]; omega
theorem flat_get2 {α : Type} (f : α → List Value) (k : Nat) (hf : ∀ x, (f x).length = k) : ∀ (l : List α) (i j : Nat) (x : α), l[i]? = some x → j < k → (l.flatMap f)[i * k + j]? = (f x)[j]?
  | y :: l, 0, j, x, h, hj => by
    simp only [List.getElem?_cons_zero, Option.some.injEq] at h
    subst h
    rw [List.flatMap_cons, List.getElem?_append_left (by rw [hf]; omega), Nat.zero_mul, Nat.zero_add]
  | y :: l, i + 1, j, x, h, hj => by
    rw [List.getElem?_cons_succ] at h
    rw [List.flatMap_cons, List.getElem?_append_right (by rw [hf, Nat.succ_mul]; omega), hf, show (i + 1) * k + j - k = i * k + j by rw [Nat.succ_mul]; omega]
    exact flat_get2 f k hf l i j x h hj
section
variable {α : Type} [Inhabited α] (enc : α → List Value) (k : Nat)
theorem flat_list (hk : ∀ x, (enc x).length = k) (l : List α) : (flatK enc k l.toArray).toList = l.flatMap enc := by
  apply List.ext_getElem?
  intro j
  by_cases hj : j < l.length * k
  · have h0 : 0 < k := by
      rcases Nat.eq_zero_or_pos k with h | h
      · subst h; omega
      · exact h
    have hi : j / k < l.length := Nat.div_lt_of_lt_mul (by rw [Nat.mul_comm]; exact hj)
    have hr : j % k < k := Nat.mod_lt _ h0
    have e : j / k * k + j % k = j := by rw [Nat.mul_comm]; exact Nat.div_add_mod j k
    have h1 := flat_get2 enc k hk l (j / k) (j % k) _ (List.getElem?_eq_getElem hi) hr
    rw [e] at h1
    have hs : j < (flatK enc k l.toArray).size := by simpa using hj
    have h2 := get_flatK enc k l.toArray j (by simpa using hj)
    rw [getElem!_pos (flatK enc k l.toArray) j hs] at h2
    have ha : l.toArray[j / k]! = l[j / k] := by rw [getElem!_pos l.toArray (j / k) (by simpa using hi)]; simp
    rw [ha, getElem!_pos (enc l[j / k]) (j % k) (by rw [hk]; exact hr)] at h2
    rw [h1, Array.getElem?_toList, Array.getElem?_eq_getElem hs, h2, List.getElem?_eq_getElem (by rw [hk]; exact hr)]
  · have h1 : (flatK enc k l.toArray).toList.length ≤ j := by simp; omega
    have h2 : (l.flatMap enc).length ≤ j := by rw [flat_len2 enc k hk]; omega
    rw [List.getElem?_eq_none h1, List.getElem?_eq_none h2]
theorem sort_far (w : World) (g m : Nat) (dk : Array α) (os : Array Obj) : Far (fun b => b = g) w (sortWorldK enc k w g 0 m dk os) := by
  unfold sortWorldK
  refine ⟨rfl, rfl, rfl, by simp [grow, putRowK], fun b hb hne => ?_⟩
  have h1 : (putRowK enc k (Sort.ahead w m) g 0 dk).heap.size = w.heap.size := by simp [putRowK]
  have h2 : g ≠ b := fun e => hne e.symm
  rw [show (grow (putRowK enc k (Sort.ahead w m) g 0 dk) os).heap = (putRowK enc k (Sort.ahead w m) g 0 dk).heap ++ os from rfl, Array.getElem?_append_left (by omega)]
  simp [putRowK, putRow, mapBlock, Sort.ahead, Array.getElem?_modify, h2]
theorem sort_block (w : World) (g m : Nat) (dk : Array α) (os : Array Obj) {cur : Array Value} {e : TypeId} {fr : Nat × Nat} (hb : w.heap[g]? = some (.cells cur e fr)) : (sortWorldK enc k w g 0 m dk os).heap[g]? = some (.cells (putCells id 0 (flatK enc k dk) cur) e fr) := by
  have hg : g < w.heap.size := (Array.getElem?_eq_some_iff.1 hb).1
  unfold sortWorldK
  rw [show (grow (putRowK enc k (Sort.ahead w m) g 0 dk) os).heap = (putRowK enc k (Sort.ahead w m) g 0 dk).heap ++ os from rfl, Array.getElem?_append_left (by simp [putRowK]; omega)]
  simp [putRowK, putRow, mapBlock, Sort.ahead, Array.getElem?_modify, hb, onCells]
theorem take_put (cur f : Array Value) (h : f.size ≤ cur.size) : (putCells id 0 f cur).toList.take f.size = f.toList := by
  apply List.ext_getElem?
  intro j
  by_cases hj : j < f.size
  · rw [List.getElem?_take_of_lt hj, Array.getElem?_toList, Array.getElem?_toList]
    simp [putCells, hj, show j < cur.size by omega]
  · rw [List.getElem?_take_eq_none (by omega), List.getElem?_eq_none (by simp; omega)]
end
def RGrew (w w' : World) : Prop := ∃ q os, w' = Sort.grow (w.drewN q) os
theorem RGrew.refl (w : World) : RGrew w w := ⟨0, #[], by simp [Sort.grow, World.drewN]⟩
theorem RGrew.two (w : World) (o o' : Obj) : RGrew w ((w.alloc o).alloc o') := by
  refine ⟨0, #[o] ++ #[o'], ?_⟩
  rw [Sort.alloc_eq_grow, Sort.alloc_eq_grow, Sort.grow_grow]
  rfl
abbrev MemC (T : List (Nat × Nat)) := { t : Nat × Nat // t ∈ T }
def encC2 {T : List (Nat × Nat)} (x : MemC T) : List Value := [.int .i64 (x.1.1 : Nat), .int .i64 (x.1.2 : Nat)]
/-- The order of cells. -/
def cfC (x y : Nat × Nat) : Int := if x.1 = y.1 then (x.2 : Int) - (y.2 : Int) else (x.1 : Int) - (y.1 : Int)
theorem cfC_lt {x y : Nat × Nat} : cfC x y < 0 ↔ lexLt x y := by
  unfold cfC lexLt
  split <;> omega
theorem cfC_swo (T : List (Nat × Nat)) : SWO (ltOf fun x y : MemC T => cfC x.1 y.1) where
  irrefl := fun x => by
    unfold ltOf cfC
    simp
  trans := fun x y z h1 h2 => by
    unfold ltOf at *
    rw [decide_eq_true_eq, cfC_lt] at *
    unfold lexLt at *
    omega
  ntrans := fun x y z h1 h2 => by
    unfold ltOf at *
    rw [decide_eq_false_iff_not, cfC_lt] at *
    unfold lexLt at *
    omega
theorem attach_ccells (T : List (Nat × Nat)) : T.attach.flatMap encC2 = ccells T := by
  have h : ccells T = ccells (T.attach.map Subtype.val) := by rw [List.attach_map_subtype_val]
  rw [h]
  unfold encC2 ccells
  rw [List.flatMap_map]
  rfl
section
set_option maxHeartbeats 4000000
set_option maxRecDepth 100000
theorem rise_any (r c r' c' : Nat) (h1 : r < 1024) (h2 : c < 1024) (h3 : r' < 1024) (h4 : c' < 1024) (w : World) :
    Calls Tryz.prog 64 #[.agg #[.int .i64 (r : Nat), .int .i64 (c : Nat)], .agg #[.int .i64 (r' : Nat), .int .i64 (c' : Nat)]] w fun e w' => e = .returned (.int .i64 (cfC (r, c) (r', c'))) ∧ RGrew w w' := by
  unfold cfC
  dsimp only
  by_cases e : r = r'
  · rw [if_pos e]
    obtain ⟨d, hd⟩ : ∃ d, (c : Int) - (c' : Int) = d := ⟨_, rfl⟩
    have hw1 : IntKind.i64.wrap d = d := by rw [IntKind.wrap_i64]; omega
    have ne1 : ((r : Int) != (r' : Int)) = false := by simp; omega
    have hd' := hd
    rw [hd']
    go_enter Tryz.func64, Tryz.ntmps64
    go_wp2_with fail
    go_ret
    exact ⟨rfl, RGrew.two _ _ _⟩
  · rw [if_neg e]
    obtain ⟨d, hd⟩ : ∃ d, (r : Int) - (r' : Int) = d := ⟨_, rfl⟩
    have hw1 : IntKind.i64.wrap d = d := by rw [IntKind.wrap_i64]; omega
    have ne1 : ((r : Int) != (r' : Int)) = true := by simp; omega
    have ne2 : ¬ (r : Int) = (r' : Int) := by omega
    have hd' := hd
    rw [hd']
    go_enter Tryz.func64, Tryz.ntmps64
    go_wp2_with fail
    go_ret
    exact ⟨rfl, RGrew.two _ _ _⟩
end
/-- The slice is sorted: what it held, in the order of cells. -/
theorem csort_any (B : Nat) (pv : Value) (T : List (Nat × Nat)) (w : World) (hP : w.ownsRow B 71 2 pv T.length (ccells T)) (hb : ∀ x ∈ T, x.1 < 1024 ∧ x.2 < 1024) (hs : T.length ≤ 1048576) :
    Calls Tryz.prog 63 #[pv, .func (.func 64) #[] #[]] w fun e w' => e = .returned (.tuple #[]) ∧ ∃ T', T'.Perm T ∧ T'.Pairwise (fun x y => ¬ lexLt y x) ∧ w'.ownsRow B 71 2 pv T'.length (ccells T') ∧ Far (fun k => pv.ownBlock = some k) w w' := by
  by_cases h0 : T = []
  · subst h0
    obtain ⟨ao, c, rfl⟩ := q_form hP
    have hS := AnyF.slices_SortFunc_none (P := Tryz.prog) { Tryz.sortC with } ao c (.func (.func 64) #[] #[]) w
    refine Calls.mono hS ?_
    rintro e w' ⟨rfl, rfl⟩
    exact ⟨rfl, [], List.Perm.refl _, List.Pairwise.nil, hP, Far.refl _ _⟩
  · rcases hP.2 with ⟨_, hn⟩ | ⟨g, cap, cur, rfl, hB, hbk, hcap, hmax, hsz, htk⟩
    · exact absurd (List.eq_nil_of_length_eq_zero hn) h0
    · obtain ⟨t0, ht0⟩ : ∃ t, t ∈ T := List.exists_mem_of_ne_nil T h0
      letI : Inhabited (MemC T) := ⟨⟨t0, ht0⟩⟩
      have hgl : g < w.heap.size := (Array.getElem?_eq_some_iff.1 hbk).1
      have hla : T.attach.toArray.size = T.length := by simp
      have hH : HoldsK (encC2 (T := T)) 2 w g 0 T.attach.toArray := by
        intro j hj
        have hj' : j < T.length * 2 := by simpa using hj
        have e1 := flat_list (encC2 (T := T)) 2 (fun _ => rfl) T.attach
        rw [attach_ccells] at e1
        refine ⟨?_, frozen_of_row w g (0 + j) cur _ hbk⟩
        rw [Nat.zero_add, cell_of_row w g j cur _ (0, 0) hbk, ← Array.getElem?_toList, ← List.getElem?_take_of_lt (show j < T.length * 2 from hj'), htk, ← e1, Array.getElem?_toList, getElem!_pos _ j hj, Array.getElem?_eq_getElem hj]
        rfl
      have hcmp : CmpLays Tryz.prog 64 #[] (encC2 (T := T)) 2 (fun x y : MemC T => cfC x.1 y.1) g 0 T.attach.toArray.size w := fun m os dk hdk x y =>
        rise_any x.1.1 x.1.2 y.1.1 y.1.2 (hb _ x.2).1 (hb _ x.2).2 (hb _ y.2).1 (hb _ y.2).2 _
      have hcon := AnyQ.slices_SortFunc Tryz.sortC 2 Tryz.isAgg71 Tryz.sizeOf71 (encC2 (T := T)) (fun _ => rfl) (fun x v hv => by
        simp [encC2] at hv
        rcases hv with rfl | rfl <;> rfl) (fun x y : MemC T => cfC x.1 y.1) (cfC_swo T) 64 #[] g 0 cap T.attach.toArray w (enters_of Tryz.func64 (by kernel_rfl) rfl) hcmp hH hgl (by rw [hla]; omega)
      rw [hla] at hcon
      refine Calls.mono hcon ?_
      rintro e w' ⟨rfl, d', n, os, hp, hsd, rfl⟩
      have hd : d'.size = T.length := by rw [hp.1, hla]
      have hx1 : d'.extract 0 T.length = d' := by rw [← hd]; simp
      have hx2 : T.attach.toArray.extract 0 T.length = T.attach.toArray := by have := Array.extract_size (xs := T.attach.toArray); rwa [hla] at this
      have hperm : d'.toList.Perm T.attach := by have := hp.2.2; rw [hx1, hx2] at this; simpa using this
      have hpt : (d'.toList.map Subtype.val).Perm T := by have := hperm.map Subtype.val; rwa [List.attach_map_subtype_val] at this
      have hlen : (d'.toList.map Subtype.val).length = T.length := by simp [hd]
      refine ⟨rfl, d'.toList.map Subtype.val, hpt, ?_, ?_, (sort_far _ 2 w g n d' os).mono fun k _ e => by rw [e]; rfl⟩
      · rw [List.pairwise_map, List.pairwise_iff_getElem]
        intro i j hi hj hij
        have hi' : i < d'.size := by simpa using hi
        have hj' : j < d'.size := by simpa using hj
        have := hsd i j (Nat.zero_le _) hij (by omega)
        rw [getElem!_pos d' i hi', getElem!_pos d' j hj'] at this
        have h1 : ¬ cfC d'[j].1 d'[i].1 < 0 := by simpa [ltOf] using this
        simp only [Array.getElem_toList]
        exact fun h => h1 (cfC_lt.2 h)
      · rw [hlen]
        refine ⟨by rw [ccells_len, hlen], .inr ⟨g, cap, _, rfl, hB, sort_block _ 2 w g n d' os hbk, hcap, hmax, by simp [putCells, hsz], ?_⟩⟩
        have e1 := flat_list (encC2 (T := T)) 2 (fun _ => rfl) d'.toList
        have e2 : (flatK (encC2 (T := T)) 2 d').size = T.length * 2 := by simp [hd]
        have e3 := take_put cur (flatK (encC2 (T := T)) 2 d') (by rw [e2, hsz]; exact Nat.mul_le_mul_right 2 hcap)
        rw [e2] at e3
        rw [e3]
        simp only [Array.toArray_toList] at e1
        rw [e1]
        unfold encC2 ccells
        rw [List.flatMap_map]
        rfl
/-- Of cells that are told once each, sorted: the matrix's own list. -/
theorem sorted_cells {T T' : List (Nat × Nat)} {D : Nat → Nat → Bool} {s : Nat} (hp : T'.Perm T) (hr : T'.Pairwise fun x y => ¬ lexLt y x) (hn : T.Nodup) (hm : ∀ x, x ∈ T ↔ D x.1 x.2 = true) (hw : ∀ r c, D r c = true → r < s ∧ c < s) : T' = cellsL D s := by
  have hn' : T'.Nodup := hp.nodup_iff.2 hn
  have hr' : T'.Pairwise lexLt := (hr.and hn').imp fun {x y} ⟨h1, h2⟩ => by
    unfold lexLt at *
    have : x.1 ≠ y.1 ∨ x.2 ≠ y.2 := by
      by_cases e1 : x.1 = y.1
      · exact .inr fun e2 => h2 (Prod.ext e1 e2)
      · exact .inl e1
    omega
  exact (rise_eq (cellsK_rise D s s) hr' fun x => (mem_cellsL hw).trans ((hm x).symm.trans hp.mem_iff.symm)).symm
end Go.Proofs.YtjolkhiggcmoiaaGreatDoor
/-! ## QRKAdd: A keeper's Add: the cells that are new, rising. -/
namespace Go.Proofs.YtjolkhiggcmoiaaGreatDoor
open Go.RowKit Go.Shelf
set_option linter.unusedVariables false
set_option linter.unusedSimpArgs false
/-- A list of cells of the call's own in a variable. -/
def FT (hf b0 : Nat) (t : List (Nat × Nat)) (F : Nat → Prop) (V : World) : Prop := ∃ v, Bk V hf 22 #[v] ∧ V.ownsRow b0 71 2 v t.length (ccells t) ∧ F = fun k => k = hf ∨ v.ownBlock = some k
theorem cell_infoC : (Tryz.prog.info? 71).map (fun i => (i.zero, i.size, i.bytes)) = some (some (.agg #[.int .i64 0, .int .i64 0]), 2, 16) := by kernel_rfl
section
set_option maxHeartbeats 4000000
set_option maxRecDepth 100000
theorem fresh_any {s hf b0 : Nat} (hs : s ≤ 1024) (hb0 : b0 ≤ hf) : Tel s 62 #[.pointer (some ⟨hf, 0, none⟩)] (FT hf b0) where
  enter := enters_of Tryz.func62 (by kernel_rfl) rfl
  lt := by
    rintro t F V ⟨v, hb, ho, rfl⟩ k (rfl | hk)
    · exact hb.lt
    · exact (ho.lt k hk).2
  still := by
    rintro t F V V' H ⟨v, hb, ho, rfl⟩ hfar hn
    exact ⟨v, hb.far' hfar (hn _ (.inl rfl)), row_same ho fun k hk hl => hfar.block k hl (hn k (.inr hk)), rfl⟩
  tell := by
    rintro t F V ⟨v, hb, ho, rfl⟩ r c hr hc ht
    obtain ⟨ao, cap, rfl⟩ := q_form ho
    obtain ⟨n, hn⟩ : ∃ n, t.length = n := ⟨_, rfl⟩
    rw [hn] at hb ho ht ⊢
    obtain ⟨i0, hi0, hz0, hz1, hz2⟩ := info_parts cell_infoC
    have c0 : V.cell? ⟨hf, 0, none⟩ = some (.slice ao n cap) := hb.cell 0
    have A1 := Lib.hid (ho.alloc (.cells #[.int .i64 (r : Nat), .int .i64 (c : Nat)] 71))
    have A2 := Lib.hid (World.news_of_block (w := V.alloc (.cells #[.int .i64 (r : Nat), .int .i64 (c : Nat)] 71)) (cs := #[.int .i64 (r : Nat), .int .i64 (c : Nat)]) (t := 71) (fr := (0, 0)) (heap_alloc_new V _))
    have A3 : ∀ u ∈ (#[.int .i64 (r : Nat), .int .i64 (c : Nat)] : Array Value).toList, u.oneCell' = true := fun u hu => by simp at hu; rcases hu with rfl | rfl <;> rfl
    have A4 : n + 1 ≤ maxLen := by unfold maxLen; omega
    have A5 : (n + 1) * 16 ≤ 140737488355328 := by omega
    have A7 : b0 ≤ (V.alloc (.cells #[.int .i64 (r : Nat), .int .i64 (c : Nat)] 71)).heap.size := by have := hb.lt; simp; omega
    have hn8 : (Value.slice ao n cap).ownBlock ≠ some hf := fun e => by
      obtain ⟨_, _, cs, hb2⟩ := own_type ho e
      have := bk_type hb2 hb
      revert this
      decide
    have hb' := Lib.hid hb
    have ho' := Lib.hid ho
    have hn' := Lib.hid hn
    clear hb ho hn
    go_enter Tryz.func62, Tryz.ntmps62
    go_wp2_with (at_builtin; refine wpList_append_lies _ rfl _ _ 22 rfl b0 71 i0 _ 2 16 Tryz.underlying22 hi0 hz0 hz1 hz2 rfl (by decide) (.slice ao n cap) n _ rfl A1.out ⟨V.heap.size, 0, none⟩ 1 1 (#[.int .i64 (r : Nat), .int .i64 (c : Nat)] : Array Value).toList rfl rfl A2.out A3 (by decide) A4 A5 A7 _ rfl ?_; intro fg fc w4 ho4 hg4 hat4 hl4; have b84 : Bk w4 hf 22 #[.slice ao n cap] := (hb'.out.alloc _).grownR hg4 (fun e => hn8 e.symm); have f84 := b84.free 0; have c84 : w4.cell? ⟨hf, 0, none⟩ = some (.slice ao n cap) := b84.cell 0; have b84' := Lib.hid b84; have ho4' := Lib.hid ho4; have hg4' := Lib.hid hg4; have hat4' := Lib.hid hat4; clear ho4 hg4 hat4 b84)
    go_end0
    have hne : fg ≠ hf := fun e => by
      subst e
      obtain ⟨_, _, cs, hb2⟩ := own_type ho4'.out rfl
      have := bk_type hb2 b84'.out
      revert this
      decide
    refine ⟨rfl, _, ⟨_, b84'.out.set 0 _, ?_, rfl⟩, ⟨?_, ?_⟩⟩
    · rw [List.length_append, List.length_singleton, hn'.out, ccells_app]
      exact row_same ho4'.out fun k hk hl => heap_setCell_other _ _ _ _ fun e => by
        cases hk
        exact hne e
    · exact (((Far.refl (fun k => k = hf ∨ (Value.slice ao n cap).ownBlock = some k) V).alloc _).grown hg4'.out fun k hk e => .inr e).set _ _ fun _ => .inl rfl
    · rintro k (rfl | hk)
      · exact .inl (.inl rfl)
      · cases hk
        rcases hat4'.out with e | e
        · exact .inl (.inr e)
        · exact .inr (by rw [e]; simp)
end
section
variable {w w' : World} {B ps pb pc s : Nat} {Fs Fb Fc : Nat → Prop} {M C : Nat → Nat → Bool}
set_option maxHeartbeats 8000000
set_option maxRecDepth 100000
theorem kAdd_no (h : Kp w B ps pb pc Fs Fb Fc s M C) (i j : Int) (hE : wrE s i j = 2) : Calls Tryz.prog 24 #[.pointer (some ⟨B, 0, none⟩), .int .i64 i, .int .i64 j] w fun e w' => e = .returned (.tuple #[.slice none 0 0, .int .i64 2]) ∧ Far (fun _ => False) w w' := by
  have HS := khas_any h i j
  rw [hE, if_neg (by decide)] at HS
  clear h hE
  go_enter Tryz.func24, Tryz.ntmps24
  go_wp2_with fail
  refine HS.mono ?_
  rintro e w1 ⟨rfl, hf1⟩
  have hf1' := Lib.hid hf1
  clear HS hf1
  go_wp2_with fail
  go_ret2
  exact ⟨rfl, hf1'.out⟩
theorem kAdd_yes (h : Kp w B ps pb pc Fs Fb Fc s M C) (hT : Tab w) (htab : ∀ k, KF B Fs Fb Fc k → k ≠ 0) (i j : Nat) (hi : i < s) (hj : j < s) : Calls Tryz.prog 24 #[.pointer (some ⟨B, 0, none⟩), .int .i64 (i : Nat), .int .i64 (j : Nat)] w fun e w' => ∃ v Fs' Fb' Fc' C', e = .returned (.tuple #[v, .int .i64 0]) ∧ Kp w' B ps pb pc Fs' Fb' Fc' s (putM M i j) C' ∧ (∀ r c, C r c = true → C' r c = true) ∧ w'.ownsRow w.heap.size 71 2 v (cellsL (lsM C' C) s).length (ccells (cellsL (lsM C' C) s)) ∧ (∀ k, v.ownBlock = some k → ¬ KF B Fs' Fb' Fc' k) ∧ Mv w w' (KF B Fs Fb Fc) (KF B Fs' Fb' Fc') := by
  have HS := khas_any h (i : Int) (j : Int)
  obtain ⟨hs1, hs2⟩ := h.st.sides
  rw [wrE_in (by omega) ⟨⟨by omega, by omega⟩, by omega, by omega⟩, if_pos rfl, Int.toNat_natCast, Int.toNat_natCast] at HS
  have h' := Lib.hid h
  have hT' := Lib.hid hT
  have htab' := Lib.hid htab
  clear h hT htab
  go_enter Tryz.func24, Tryz.ntmps24
  go_wp2_with fail
  refine HS.mono ?_
  rintro e w1 ⟨rfl, hf1⟩
  have hf1' := Lib.hid hf1
  clear HS hf1
  obtain ⟨hb, hhb⟩ : ∃ h, h = w1.heap.size := ⟨_, rfl⟩
  obtain ⟨W2, hW2⟩ : ∃ V, V = w1.alloc (.cells #[.slice none 0 0] 22) := ⟨_, rfl⟩
  have b2 : Bk W2 hb 22 #[.slice none 0 0] := hW2 ▸ Bk.new hhb
  have hf2 : Far (fun _ => False) w W2 := hW2 ▸ hf1'.out.alloc _
  have hbw : w.heap.size ≤ hb := by rw [hhb]; exact hf1'.out.size
  have hti : FT hb w.heap.size [] (fun k => k = hb ∨ (Value.slice none 0 0).ownBlock = some k) W2 := ⟨_, b2, World.ownsRow_nil _ _ _ _, rfl⟩
  have KA := kadd_any (h'.out.still hf2) (fresh_any hs2 hbw) hti (hT'.out.still hf2) (fun k hk e => by
    have := h'.out.lt hk
    rcases e with rfl | e
    · omega
    · cases e) (fun k hk => by
    rcases hk with hk | rfl | e
    · exact htab'.out k hk
    · have := hT'.out.lt; omega
    · cases e) hi hj
  have hf2' := Lib.hid hf2
  have hW2' := Lib.hid hW2
  have hhb' := Lib.hid hhb
  clear hf2 hW2 hhb hti b2
  go_upto_region 5 with fail
  rw [← hhb'.out, ← hW2'.out]
  go_wp2_with fail
  refine KA.mono ?_
  rintro e w3 ⟨rfl, Fs', Fb', Fc', Ft', C', told, hK3, ⟨v3, hb3, ho3, rfl⟩, hm3, hd3, hv3⟩
  obtain ⟨ao, cap, rfl⟩ := q_form ho3
  have c3 : w3.cell? ⟨hb, 0, none⟩ = some (.slice ao told.length cap) := hb3.cell 0
  have hwC' := hK3.cl.within
  have SO := csort_any w.heap.size (.slice ao told.length cap) told w3 ho3 (fun x hx => by
    have := hwC' _ _ ((hm3.mem x).1 hx).1
    omega) (hm3.few hs2 hwC')
  have hK3' := Lib.hid hK3
  have hb3' := Lib.hid hb3
  have ho3' := Lib.hid ho3
  have hm3' := Lib.hid hm3
  have hd3' := Lib.hid hd3
  have hv3' := Lib.hid hv3
  have hwC'' := Lib.hid hwC'
  clear KA hK3 hb3 ho3 hm3 hd3 hv3 hwC'
  go_wp2_with fail
  refine SO.mono ?_
  rintro e w4 ⟨rfl, T', hp, hr, ho4, hf4⟩
  have hne : (Value.slice ao told.length cap).ownBlock ≠ some hb := fun e => by
    obtain ⟨_, _, cs, hb2⟩ := own_type ho3'.out e
    have := bk_type hb2 hb3'.out
    revert this
    decide
  have c4 : w4.cell? ⟨hb, 0, none⟩ = some (.slice ao told.length cap) := (hb3'.out.far' hf4 fun e => hne e).cell 0
  have hsc := sorted_cells (D := lsM C' C) (s := s) hp hr hm3'.out.nod (fun x => by
    rw [hm3'.out.mem]
    unfold lsM
    rw [Bool.and_eq_true, Bool.not_eq_true']) (fun r c e => by
    unfold lsM at e
    rw [Bool.and_eq_true] at e
    exact hwC''.out r c e.1)
  have hlen := hp.length_eq
  have ho4' := Lib.hid ho4
  have hf4' := Lib.hid hf4
  have hsc' := Lib.hid hsc
  have hlen' := Lib.hid hlen
  clear SO hp hr ho4 hf4 hsc hlen c3
  go_wp2_with fail
  go_ret2
  have hkeep : ∀ k, KF B Fs' Fb' Fc' k → ¬ (Value.slice ao told.length cap).ownBlock = some k := fun k hk e => hd3'.out k hk (.inr e)
  refine ⟨_, Fs', Fb', Fc', C', rfl, hK3'.out.kept hf4'.out hkeep, hm3'.out.sub, ?_, fun k hk hk2 => hkeep k hk2 hk, ⟨?_, fun k hk => ?_⟩⟩
  · rw [← hsc'.out]
    have := ho4'.out
    rw [hlen'.out] at this ⊢
    exact this
  · have h1 : Far (fun k => KF B Fs Fb Fc k) w w3 := (hf2'.out.mono fun _ _ h => h.elim).trans hv3'.out.far fun k hk h => by
      rcases h with h | rfl | h
      · exact h
      · omega
      · cases h
    exact h1.trans hf4'.out fun k hk e => by
      have := (ho3'.out.lt k e).1
      omega
  · rcases hv3'.out.more k (.inl hk) with (h | rfl | h) | h
    · exact .inl h
    · exact .inr hbw
    · cases h
    · exact .inr (Nat.le_trans hf2'.out.size h)
end
end Go.Proofs.YtjolkhiggcmoiaaGreatDoor
/-! ## QRAwake: A new keeper; the law's awake. -/
namespace Go.Proofs.YtjolkhiggcmoiaaGreatDoor
open Go.RowKit Go.Shelf
set_option linter.unusedVariables false
set_option linter.unusedSimpArgs false
theorem tnM_zero : ∀ r c, tnM zeroM r c = zeroM r c := fun _ _ => rfl
section
set_option maxHeartbeats 8000000
set_option maxRecDepth 100000
theorem knew_yes (s : Nat) (h1 : 1 ≤ s) (h2 : s ≤ 1024) (w : World) : Calls Tryz.prog 13 #[.int .i64 (s : Nat)] w fun e w' => ∃ B ps pb pc Fs Fb Fc, e = .returned (.tuple #[.pointer (some ⟨B, 0, none⟩), .int .i64 0]) ∧ Kp w' B ps pb pc Fs Fb Fc s zeroM zeroM ∧ (∀ k, KF B Fs Fb Fc k → w.heap.size ≤ k) ∧ Far (fun _ => False) w w' := by
  have NW := qnew_yes s h1 h2 w
  go_enter Tryz.func13, Tryz.ntmps13
  go_wp2_with fail
  refine NW.mono ?_
  rintro e w1 ⟨rfl, lv, hlv, hwd, hBm, hf1⟩
  have hM1 := Mx.new (w := w) h1 h2 hlv hwd hBm
  obtain ⟨p0, hp0⟩ : ∃ p, p = w.heap.size := ⟨_, rfl⟩
  rw [← hp0] at hM1 ⊢
  have hF1 : ∀ k, Qf p0 (.slice none 0 0) (.slice none 0 0) k → w.heap.size ≤ k := fun k hk => by
    rw [Qf_none hk, hp0]; exact Nat.le_refl _
  obtain ⟨F1, hF1e⟩ : ∃ F, Qf p0 (.slice none 0 0) (.slice none 0 0) = F := ⟨_, rfl⟩
  rw [hF1e] at hM1 hF1
  have CP1 := qcopy_any hM1
  have hM1' := Lib.hid hM1
  have hf1' := Lib.hid hf1
  have hF1' := Lib.hid hF1
  clear NW hlv hwd hBm hf1 hM1 hF1 hF1e hp0
  go_wp2_with fail
  refine CP1.mono ?_
  rintro e w2 ⟨p2, rfl, F2, hM2, hlo2, hf2⟩
  have hM12 := hM1'.out.still hf2
  have CP2 := qcopy_any hM12
  have hM2' := Lib.hid hM2
  have hM12' := Lib.hid hM12
  have hlo2' := Lib.hid hlo2
  have hf2' := Lib.hid hf2
  clear CP1 hM2 hM12 hlo2 hf2
  go_wp2_with fail
  refine CP2.mono ?_
  rintro e w3 ⟨p3, rfl, F3, hM3, hlo3, hf3⟩
  have hM3' := Lib.hid hM3
  have hlo3' := Lib.hid hlo3
  have hf3' := Lib.hid hf3
  clear CP2 hM3 hlo3 hf3
  go_wp2_with fail
  go_ret2
  have ha : Far (fun _ => False) w3 (w3.alloc (.cells #[.pointer (some ⟨p0, 0, none⟩), .pointer (some ⟨p2, 0, none⟩), .pointer (some ⟨p3, 0, none⟩)] 90)) := (Far.refl _ w3).alloc _
  have hz1 := hf1'.out.size
  have hz2 := hf2'.out.size
  have hz3 := hf3'.out.size
  refine ⟨w3.heap.size, p0, p2, p3, F1, F2, F3, rfl, ⟨Bk.new rfl, (hM12'.out.still hf3'.out).still ha, ((hM2'.out.still hf3'.out).still ha).congr tnM_zero, hM3'.out.still ha, clo_zero, fun k hk h => ?_, fun k hk h => ?_, fun k hk h => ?_⟩, fun k hk => ?_, (hf1'.out.then (hf2'.out.then hf3'.out)).then ha⟩
  · have := hM1'.out.lt k hk
    have := hlo2'.out k h
    omega
  · have := hM1'.out.lt k hk
    have := hlo3'.out k h
    omega
  · have := hM2'.out.lt k hk
    have := hlo3'.out k h
    omega
  · rcases hk with rfl | hk | hk | hk
    · omega
    · exact hF1'.out k hk
    · have := hlo2'.out k hk; omega
    · have := hlo3'.out k hk; omega
def a5M1 : Nat → Nat → Bool := moreC zeroM 0 1
def a5M2 : Nat → Nat → Bool := moreC a5M1 1 2
theorem a5_l1 : cellsL (lsM a5M1 zeroM) 3 = [(0, 1)] := by decide
theorem a5_l2 : cellsL (lsM a5M2 a5M1) 3 = [(0, 2), (1, 2)] := by decide
theorem a5_l3 : (cellsL a5M2 3).length = 3 := by decide
theorem putM_iff {M : Nat → Nat → Bool} {i j r c : Nat} : putM M i j r c = true ↔ M r c = true ∨ (r = i ∧ c = j) := by
  unfold putM
  simp only [Bool.or_eq_true, Bool.and_eq_true, decide_eq_true_eq]
theorem clo_fun {M C D : Nat → Nat → Bool} (h : IsClo M C) (h2 : IsClo M D) : C = D := funext fun r => funext fun c => h.same h2 r c
theorem awake05_any (w : World) (hT : Tab w) : Calls Tryz.prog 6 #[] w fun e w' => e = .returned (.bool true) ∧ Far (fun _ => False) w w' := by
  have NW := knew_yes 3 (by decide) (by decide) w
  have hT' := Lib.hid hT
  clear hT
  go_enter Tryz.func6, Tryz.ntmps6
  go_wp2_with fail
  refine NW.mono ?_
  rintro e w1 ⟨B, ps, pb, pc, Fs, Fb, Fc, rfl, hK, hlo, hf1⟩
  have KA := kAdd_yes hK (hT'.out.still hf1) (fun k hk e => by have := hlo k hk; have := hT'.out.lt; omega) 0 1 (by decide) (by decide)
  have hK' := Lib.hid hK
  have hlo' := Lib.hid hlo
  have hf1' := Lib.hid hf1
  clear NW hK hlo hf1
  go_wp2_with fail
  refine KA.mono ?_
  rintro e w2 ⟨v2, Fs2, Fb2, Fc2, C2, rfl, hK2, hs2, ho2, ha2, hv2⟩
  have hC2 : C2 = a5M1 := clo_fun hK2.clo (moreC_clo clo_zero fun r c => putM_iff)
  rw [hC2] at hK2 ho2
  rw [a5_l1] at ho2
  obtain ⟨ao2, cp2, rfl⟩ := q_form ho2
  have hlo2 : ∀ k, KF B Fs2 Fb2 Fc2 k → w.heap.size ≤ k := fun k hk => (hv2.more k hk).elim (hlo'.out k) fun h => Nat.le_trans hf1'.out.size h
  have hf2 : Far (fun _ => False) w w2 := hf1'.out.trans hv2.far fun k hk h => by have := hlo'.out k h; omega
  have KB := kAdd_yes hK2 (hT'.out.still hf2) (fun k hk e => by have := hlo2 k hk; have := hT'.out.lt; omega) 1 2 (by decide) (by decide)
  have hK2' := Lib.hid hK2
  have hlo2' := Lib.hid hlo2
  have hf2' := Lib.hid hf2
  clear KA hK' hlo' hf1' hC2 hK2 hs2 ho2 ha2 hv2 hlo2 hf2
  go_wp2_with fail
  refine KB.mono ?_
  rintro e w3 ⟨v3, Fs3, Fb3, Fc3, C3, rfl, hK3, hs3, ho3, ha3, hv3⟩
  have hC3 : C3 = a5M2 := clo_fun hK3.clo (moreC_clo hK2'.out.clo fun r c => putM_iff)
  rw [hC3] at hK3 ho3
  rw [a5_l2] at ho3
  obtain ⟨ao3, cp3, rfl⟩ := q_form ho3
  have hf3 : Far (fun _ => False) w w3 := hf2'.out.trans hv3.far fun k hk h => by have := hlo2'.out k h; omega
  have KN := kAdd_no hK3 0 3 (by decide)
  obtain ⟨g3, c3, e3, _⟩ := ho3.form (by decide)
  cases e3
  have hK3' := Lib.hid hK3
  have ho3' := Lib.hid ho3
  have hf3' := Lib.hid hf3
  clear KB hK2' hlo2' hf2' hC3 hK3 hs3 ho3 ha3 hv3 hf3
  go_wp2_with fail
  refine KN.mono ?_
  rintro e w4 ⟨rfl, hf4⟩
  have KH := khas_any (hK3'.out.still hf4) 0 2
  rw [wrE_in (by decide) (by decide), if_pos rfl] at KH
  have hf4' := Lib.hid hf4
  clear KN hf4
  go_wp2_with fail
  refine KH.mono ?_
  rintro e w5 ⟨rfl, hf5⟩
  have hf35 := hf4'.out.then hf5
  have KL := klen_any (hK3'.out.still hf35)
  have hnm : numM a5M2 = 3 := by
    have h := cellsL_len hK3'.out.cl.sides.2 hK3'.out.cl.within
    rw [a5_l3] at h
    exact h.symm
  rw [hnm] at KL
  have ho5 := row_same ho3'.out fun k hk hl => hf35.block k hl id
  have d0 : w5.cell? ⟨g3, 0, none⟩ = some (.int .i64 0) := (ho5.cellAt 0 (by decide)).trans rfl
  have d1 : w5.cell? ⟨g3, 1, none⟩ = some (.int .i64 2) := (ho5.cellAt 1 (by decide)).trans rfl
  have hf5' := Lib.hid (hf3'.out.then hf35)
  clear KH hf5 hf35 hnm ho5
  have hat : a5M2 (Int.toNat 0) (Int.toNat 2) = true := by decide
  rw [hat]
  go_wp2_with fail
  refine KL.mono ?_
  rintro e w6 ⟨rfl, hf6⟩
  have hf6' := Lib.hid (hf5'.out.then hf6)
  clear KL hf6 hf5' d0 d1
  go_wp2_with fail
  go_ret
  exact ⟨rfl, hf6'.out⟩
end
end Go.Proofs.YtjolkhiggcmoiaaGreatDoor
