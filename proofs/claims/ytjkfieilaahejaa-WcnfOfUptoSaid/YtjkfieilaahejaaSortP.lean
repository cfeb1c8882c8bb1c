/-
  Productions sorted by the library.
-/
import Derived.Test.YtjkfieilaahejaaOrderP
import Derived.Test.YtjkfieilaahejaaSortLay
namespace Go.Proofs.Ytjkfieilaahejaa
open Go.RowKit Go.Sort Go.Shelf
set_option linter.unusedVariables false
set_option linter.unusedSimpArgs false
section
variable {α : Type} [Inhabited α] (enc : α → List Value) (k : Nat)
theorem flat_list (hk : ∀ x, (enc x).length = k) (l : List α) : (flatK enc k l.toArray).toList = l.flatMap enc := by
  apply List.ext_getElem?
  intro j
  by_cases hj : j < l.length * k
  · have h0 : 0 < k := by
      rcases Nat.eq_zero_or_pos k with h | h
      · subst h; omega
      · exact h
    have hi : j / k < l.length := Nat.div_lt_of_lt_mul (by rw [Nat.mul_comm]; exact hj)
    have hr : j % k < k := Nat.mod_lt _ h0
    have e : j / k * k + j % k = j := by rw [Nat.mul_comm]; exact Nat.div_add_mod j k
    have h1 := flat_get enc k hk l (j / k) (j % k) _ (List.getElem?_eq_getElem hi) hr
    rw [e] at h1
    have hs : j < (flatK enc k l.toArray).size := by simpa using hj
    have h2 := get_flatK enc k l.toArray j (by simpa using hj)
    rw [getElem!_pos (flatK enc k l.toArray) j hs] at h2
    have ha : l.toArray[j / k]! = l[j / k] := by rw [getElem!_pos l.toArray (j / k) (by simpa using hi)]; simp
    rw [ha, getElem!_pos (enc l[j / k]) (j % k) (by rw [hk]; exact hr)] at h2
    rw [h1, Array.getElem?_toList, Array.getElem?_eq_getElem hs, h2, List.getElem?_eq_getElem (by rw [hk]; exact hr)]
  · have h1 : (flatK enc k l.toArray).toList.length ≤ j := by simp; omega
    have h2 : (l.flatMap enc).length ≤ j := by rw [flat_len enc k hk]; omega
    rw [List.getElem?_eq_none h1, List.getElem?_eq_none h2]
theorem sort_far (w : World) (g m : Nat) (dk : Array α) (os : Array Obj) : Far (fun b => b = g) w (sortWorldK enc k w g 0 m dk os) := by
  unfold sortWorldK
  refine ⟨rfl, rfl, rfl, by simp [grow, putRowK], fun b hb hne => ?_⟩
  have h1 : (putRowK enc k (Sort.ahead w m) g 0 dk).heap.size = w.heap.size := by simp [putRowK]
  have h2 : g ≠ b := fun e => hne e.symm
  rw [show (grow (putRowK enc k (Sort.ahead w m) g 0 dk) os).heap = (putRowK enc k (Sort.ahead w m) g 0 dk).heap ++ os from rfl, Array.getElem?_append_left (by omega)]
  simp [putRowK, putRow, mapBlock, Sort.ahead, Array.getElem?_modify, h2]
theorem sort_block (w : World) (g m : Nat) (dk : Array α) (os : Array Obj) {cur : Array Value} {e : TypeId} {fr : Nat × Nat} (hb : w.heap[g]? = some (.cells cur e fr)) : (sortWorldK enc k w g 0 m dk os).heap[g]? = some (.cells (putCells id 0 (flatK enc k dk) cur) e fr) := by
  have hg : g < w.heap.size := (Array.getElem?_eq_some_iff.1 hb).1
  unfold sortWorldK
  rw [show (grow (putRowK enc k (Sort.ahead w m) g 0 dk) os).heap = (putRowK enc k (Sort.ahead w m) g 0 dk).heap ++ os from rfl, Array.getElem?_append_left (by simp [putRowK]; omega)]
  simp [putRowK, putRow, mapBlock, Sort.ahead, Array.getElem?_modify, hb, onCells]
theorem take_put (cur f : Array Value) (h : f.size ≤ cur.size) : (putCells id 0 f cur).toList.take f.size = f.toList := by
  apply List.ext_getElem?
  intro j
  by_cases hj : j < f.size
  · rw [List.getElem?_take_of_lt hj, Array.getElem?_toList, Array.getElem?_toList]
    simp [putCells, hj, show j < cur.size by omega]
  · rw [List.getElem?_take_eq_none (by omega), List.getElem?_eq_none (by simp; omega)]
end
abbrev Mem (T : List Tr) := { t : Tr // t ∈ T }
def encM {T : List Tr} (x : Mem T) : List Value := tcell x.1
def cfM {T : List Tr} (x y : Mem T) : Int := ordP (pl x.1) (pl y.1)
theorem attach_cells (T : List Tr) : T.attach.flatMap encM = tcells T := by
  have h : tcells T = tcells (T.attach.map Subtype.val) := by rw [List.attach_map_subtype_val]
  rw [h]
  unfold encM tcells
  rw [List.flatMap_map]
/-- The slice is sorted: what it held, in the order of productions. -/
theorem sort_any (B : Nat) (pv : Value) (T : List Tr) (w : World) (hP : OwnP w B pv T) (hs : T.length ≤ 4398046510976) (hs2 : ∀ t ∈ T, t.2.2.length ≤ maxLen) (h0 : T ≠ []) :
    Calls Try.prog 46 #[pv, .func (.func 47) #[] #[]] w fun e w' => e = .returned (.tuple #[]) ∧ ∃ T', T'.Perm T ∧ T'.Pairwise (fun x y => ordP (pl x) (pl y) ≤ 0) ∧ OwnP w' B pv T' ∧ Far (fun k => pv.ownBlock = some k) w w' := by
  rcases hP.1.2 with ⟨_, hn⟩ | ⟨g, cap, cur, rfl, hB, hb, hcap, hmax, hsz, htk⟩
  · exact absurd (List.eq_nil_of_length_eq_zero hn) h0
  · obtain ⟨t0, ht0⟩ : ∃ t, t ∈ T := List.exists_mem_of_ne_nil T h0
    letI : Inhabited (Mem T) := ⟨⟨t0, ht0⟩⟩
    have hgl : g < w.heap.size := (Array.getElem?_eq_some_iff.1 hb).1
    have hla : T.attach.toArray.size = T.length := by simp
    have hH : HoldsK (encM (T := T)) 2 w g 0 T.attach.toArray := by
      intro j hj
      have hj' : j < T.length * 2 := by simpa using hj
      have e1 := flat_list (encM (T := T)) 2 (fun _ => rfl) T.attach
      rw [attach_cells] at e1
      refine ⟨?_, frozen_of_row w g (0 + j) cur _ hb⟩
      rw [Nat.zero_add, cell_of_row w g j cur _ (0, 0) hb, ← Array.getElem?_toList, ← List.getElem?_take_of_lt (show j < T.length * 2 from hj'), htk, ← e1, Array.getElem?_toList, getElem!_pos _ j hj, Array.getElem?_eq_getElem hj]
      rfl
    have hbody : ∀ w', Far (fun b => b = g) w w' → ∀ x : Mem T, Body w' x.1.2.1 x.1.2.2 := fun w' hf x => by
      have := (hP.2 x.1 x.2).far hf (fun k e => e ▸ hB) (fun hr k hk e => rows_ne hP.1 hr prod_ne_sym (k := k) (by rw [e]; rfl) hk)
      exact this.body
    have hcmp : CmpLays Try.prog 47 #[] (encM (T := T)) 2 cfM g 0 T.attach.toArray.size w := fun m os dk hdk x y =>
      order_any x.1.1 y.1.1 x.1.2.1 y.1.2.1 x.1.2.2 y.1.2.2 _ (hbody _ (sort_far _ 2 w g m dk os) x) (hbody _ (sort_far _ 2 w g m dk os) y) (hs2 _ x.2) (hs2 _ y.2)
    have hcon := AnyQ.slices_SortFunc Try.sortP 2 Try.isAgg44 Try.sizeOf44 (encM (T := T)) (fun _ => rfl) (fun x v hv => by
      simp [encM, tcell] at hv
      rcases hv with rfl | rfl
      · rfl
      · exact (hP.2 x.1 x.2).body.one) cfM (tot_ordP.on fun x : Mem T => pl x.1).swo 47 #[] g 0 cap T.attach.toArray w (enters_of Try.func47 (by kernel_rfl) rfl) hcmp hH hgl (by rw [hla]; omega)
    rw [hla] at hcon
    refine Calls.mono hcon ?_
    rintro e w' ⟨rfl, d', n, os, hp, hsd, rfl⟩
    have hd : d'.size = T.length := by rw [hp.1, hla]
    have hx1 : d'.extract 0 T.length = d' := by rw [← hd]; simp
    have hx2 : T.attach.toArray.extract 0 T.length = T.attach.toArray := by have := Array.extract_size (xs := T.attach.toArray); rwa [hla] at this
    have hperm : d'.toList.Perm T.attach := by have := hp.2.2; rw [hx1, hx2] at this; simpa using this
    have hpt : (d'.toList.map Subtype.val).Perm T := by have := hperm.map Subtype.val; rwa [List.attach_map_subtype_val] at this
    have hlen : (d'.toList.map Subtype.val).length = T.length := by simp [hd]
    refine ⟨rfl, d'.toList.map Subtype.val, hpt, ?_, ⟨?_, ?_⟩, (sort_far _ 2 w g n d' os).mono fun k _ e => by rw [e]; rfl⟩
    · rw [List.pairwise_map, List.pairwise_iff_getElem]
      intro i j hi hj hij
      have hi' : i < d'.size := by simpa using hi
      have hj' : j < d'.size := by simpa using hj
      have := hsd i j (Nat.zero_le _) hij (by omega)
      rw [getElem!_pos d' i hi', getElem!_pos d' j hj'] at this
      have h1 : ¬ cfM d'[j] d'[i] < 0 := by simpa [ltOf] using this
      have h2 := (tot_ordP.turn (pl d'[j].1) (pl d'[i].1))
      have h3 := (tot_ordP.turn (pl d'[i].1) (pl d'[j].1))
      show ordP (pl d'.toList[i].1) (pl d'.toList[j].1) ≤ 0
      simp only [Array.getElem_toList]
      unfold cfM at h1
      omega
    · rw [hlen]
      refine ⟨by rw [tcells_len, hlen], .inr ⟨g, cap, _, rfl, hB, sort_block _ 2 w g n d' os hb, hcap, hmax, by simp [putCells, hsz], ?_⟩⟩
      have e1 := flat_list (encM (T := T)) 2 (fun _ => rfl) d'.toList
      have e2 : (flatK (encM (T := T)) 2 d').size = T.length * 2 := by simp [hd]
      have e3 := take_put cur (flatK (encM (T := T)) 2 d') (by rw [e2, hsz]; exact Nat.mul_le_mul_right 2 hcap)
      rw [e2] at e3
      rw [e3]
      simp only [Array.toArray_toList] at e1
      rw [e1]
      unfold encM tcells
      rw [List.flatMap_map]
    · intro t ht
      have htT : t ∈ T := hpt.mem_iff.1 ht
      exact (hP.2 t htT).far (sort_far _ 2 w g n d' os) (fun k e => e ▸ hB) (fun hr k hk e => rows_ne hP.1 hr prod_ne_sym (k := k) (by rw [e]; rfl) hk)
end Go.Proofs.Ytjkfieilaahejaa
