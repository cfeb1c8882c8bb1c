/-
  A loop over the program's marks: what its rounds keep.
-/
import Derived.Test.YtogobjokjpddbaaRefCut
namespace Go.Proofs.Ytogobjokjpddbaa
open Go.RowKit
set_option linter.unusedVariables false
set_option linter.unusedSimpArgs false
theorem lastEnd_snoc (x : Nat × Nat × Nat) : ∀ (i : Nat) (l : List (Nat × Nat × Nat)), lastEnd i (l ++ [x]) = x.2.2
  | i, [] => rfl
  | i, y :: l => by simp only [List.cons_append, lastEnd]; exact lastEnd_snoc x _ l
theorem good_vm (s : ByteArray) : ∀ (l : List (Nat × Nat × Nat)) (i : Nat), Good (byt s) s.size i l → l.map (vm s) = l
  | [], _, _ => rfl
  | x :: l, i, h => by
    obtain ⟨_, h2, h3, _, h5, h6⟩ := h
    have hv : vm s x = x := vm_ok ⟨by rw [h3]; exact kindN_le _, by rw [h5]; exact Nat.le_of_lt (mend_gt _ _ _), by rw [h5]; exact mend_le _ _ h2⟩
    rw [List.map_cons, hv, good_vm s l _ h6]
theorem ml_good (s : ByteArray) : Good (byt s) s.size 0 (ml s) := (cut_facts (byt s) s.size _ 0 (Nat.zero_le _) rfl).1
theorem ml_vm (s : ByteArray) : (ml s).map (vm s) = ml s := good_vm s _ 0 (ml_good s)
theorem stop_run (s : ByteArray) : stopAt s = run (byt s) s.size blankN (lastEnd 0 (ml s)) := (cut_facts (byt s) s.size _ 0 (Nat.zero_le _) rfl).2.1
theorem lastEnd_le (s : ByteArray) : ∀ (l : List (Nat × Nat × Nat)) (i : Nat), i ≤ s.size → lastEnd i (l.map (vm s)) ≤ s.size
  | [], _, h => h
  | x :: l, i, h => lastEnd_le s l _ (vm_le s x).2.2
theorem ext_size (s : ByteArray) (x : Nat × Nat × Nat) : (vm s x).2.1 + (s.extract (vm s x).2.1 (vm s x).2.2).size = (vm s x).2.2 := by
  have := vm_le s x
  rw [ByteArray.size_extract]
  omega
theorem own_kept {A B : World} {row : Option Nat} {base n : Nat} {v : Value} {e : TypeId} {size : Nat} {xs : List Value} (h : A.ownsRow base e size v n xs) (hg : A.grownBy B row)
    (hr : ∀ r, row = some r → v.ownBlock ≠ some r) : B.ownsRow base e size v n xs := by
  refine ⟨h.1, ?_⟩
  rcases h.2 with hn | ⟨g, cap, cur, rfl, hbb, hh, rest⟩
  · exact .inl hn
  · have hg' := (Array.getElem?_eq_some_iff.1 hh).1
    exact .inr ⟨g, cap, cur, rfl, hbb, (hg.block g hg' (fun e => hr g e.symm rfl)).trans hh, rest⟩
theorem own_cells {A : World} {base n : Nat} {v : Value} {e : TypeId} {size : Nat} {xs : List Value} (h : A.ownsRow base e size v n xs) {r : Nat} (hr : v.ownBlock = some r) : base ≤ r ∧ ∃ o, A.heap[r]? = some o ∧ o.isCells = true := by
  rcases h.2 with ⟨rfl, _⟩ | ⟨g, cap, cur, rfl, hbb, hh, rest⟩
  · cases hr
  · cases hr; exact ⟨hbb, _, hh, rfl⟩
/-- How memory stands in Scan's loop when these marks have come: bl the list's variable, be the end's, bs the text's. -/
structure Sc (w0 : World) (B : Nat) (s : ByteArray) (bl be bs : Nat) (pre : List (Nat × Nat × Nat)) (W : World) : Prop where
  db : Below w0.heap.size w0 W
  sz : B ≤ W.heap.size
  list : ∃ v, Bk W bl 22 #[v] ∧ OwnM B W v (txt s (pre.map (vm s)))
  stop : Bk W be 3 #[.int .i64 (lastEnd 0 (pre.map (vm s)) : Nat)]
  text : Bk W bs 9 #[.string s]
theorem Sc.own {w0 : World} {B : Nat} {s : ByteArray} {bl be bs : Nat} (hB : w0.heap.size ≤ B) : OwnFrom B (Sc w0 B s bl be bs) := by
  intro pre A C row h hg hr
  obtain ⟨v, h1, h2⟩ := h.list
  refine ⟨h.db.trans ((Below.refl _ A).grown hg h.db.size fun q e => Nat.le_trans hB (hr q e).1), Nat.le_trans h.sz hg.size, ⟨v, h1.kept hg hr, own_kept h2 hg fun r e hv => ?_⟩, h.stop.kept hg hr, h.text.kept hg hr⟩
  obtain ⟨_, o, ho, hc⟩ := own_cells h2 hv
  obtain ⟨_, o', ho', hc'⟩ := hr r e
  rw [ho] at ho'
  cases ho'
  rw [hc] at hc'
  cases hc'
theorem Sc.step {w0 : World} {B : Nat} {s : ByteArray} {bl be bs : Nat} {pre : List (Nat × Nat × Nat)} {x : Nat × Nat × Nat} {W w5 : World} {v v' : Value} {o : Obj} {u : Int}
    (h : Sc w0 B s bl be bs pre W) (hl : bl < B) (he : be < B) (hs : bs < B) (h0 : w0.heap.size ≤ bl) (h0e : w0.heap.size ≤ be) (n1 : bl ≠ be) (n2 : bl ≠ bs) (n3 : be ≠ bs)
    (hv : Bk W bl 22 #[v]) (hO : OwnM B W v (txt s (pre.map (vm s))))
    (hown : w5.ownsRow B 29 3 v' ((txt s (pre.map (vm s))).length + 1) (flatM (txt s (pre.map (vm s))) ++ [.int .i64 ((vm s x).1 : Int), .int .i64 ((vm s x).2.1 : Int), .string (s.extract (vm s x).2.1 (vm s x).2.2)]))
    (hgrow : (W.alloc o).grownBy w5 v.ownBlock) (hu : u = ((vm s x).2.2 : Int)) :
    KeepsFrom B W ((w5.setCell ⟨bl, 0, none⟩ v').setCell ⟨be, 0, none⟩ (.int .i64 u)) ∧ KeepB bs W ((w5.setCell ⟨bl, 0, none⟩ v').setCell ⟨be, 0, none⟩ (.int .i64 u)) ∧
      Sc w0 B s bl be bs (pre ++ [x]) ((w5.setCell ⟨bl, 0, none⟩ v').setCell ⟨be, 0, none⟩ (.int .i64 u)) := by
  have hrow : ∀ r, v.ownBlock = some r → B ≤ r ∧ ∃ o, W.heap[r]? = some o ∧ o.isCells = true := fun r e => own_cells hO e
  have keep : ∀ {g : Nat} {t : TypeId} {cs : Array Value}, g < B → Bk W g t cs → Bk w5 g t cs := fun {g t cs} hg hb =>
    (hb.alloc o).grown hgrow (fun e => by have := (hrow g e.symm).1; omega)
  have l5 := keep hl hv
  have e5 := keep he h.stop
  have t5 := keep hs h.text
  have kA := KeepsOthers.setCell w5 ⟨bl, 0, none⟩ v'
  have kB := KeepsOthers.setCell (w5.setCell ⟨bl, 0, none⟩ v') ⟨be, 0, none⟩ (.int .i64 u)
  have lB : Bk ((w5.setCell ⟨bl, 0, none⟩ v').setCell ⟨be, 0, none⟩ (.int .i64 u)) bl 22 #[v'] := (l5.set 0 v').far n1 _
  have eB : Bk ((w5.setCell ⟨bl, 0, none⟩ v').setCell ⟨be, 0, none⟩ (.int .i64 u)) be 3 #[.int .i64 u] := (e5.far (p := ⟨bl, 0, none⟩) (fun e => n1 e.symm) v').set 0 _
  have tB : Bk ((w5.setCell ⟨bl, 0, none⟩ v').setCell ⟨be, 0, none⟩ (.int .i64 u)) bs 9 #[.string s] := (t5.far (p := ⟨bl, 0, none⟩) (fun e => n2 e.symm) v').far (p := ⟨be, 0, none⟩) (fun e => n3 e.symm) _
  have s5 : W.heap.size + 1 ≤ w5.heap.size := by have := hgrow.size; simpa using this
  have db5 : Below w0.heap.size W ((w5.setCell ⟨bl, 0, none⟩ v').setCell ⟨be, 0, none⟩ (.int .i64 u)) :=
    ((((Below.refl _ W).alloc h.db.size o).grown hgrow (by have := h.db.size; simp; omega) (fun q e => by have := (hrow q e).1; omega)).setCell (p := ⟨bl, 0, none⟩) h0 v').setCell (p := ⟨be, 0, none⟩) h0e _
  have szB : w5.heap.size ≤ ((w5.setCell ⟨bl, 0, none⟩ v').setCell ⟨be, 0, none⟩ (.int .i64 u)).heap.size := Nat.le_trans kA.size kB.size
  refine ⟨⟨by omega, fun k ob hk hob hc => ?_⟩, ?_, ?_⟩
  · refine kB.same k ob (kA.same k ob ?_ hc) hc
    refine (hgrow.block k (by have := (Array.getElem?_eq_some_iff.1 hob).1; simp; omega) fun e => ?_).trans ((heap_alloc_old W o (Array.getElem?_eq_some_iff.1 hob).1).trans hob)
    obtain ⟨_, o', ho', hc'⟩ := hrow k e.symm
    rw [hob] at ho'
    cases ho'
    rw [hc] at hc'
    cases hc'
  · unfold KeepB
    have h1 : ((w5.setCell ⟨bl, 0, none⟩ v').setCell ⟨be, 0, none⟩ (.int .i64 u)).heap[bs]? = some (.cells #[.string s] 9 (0, 0)) := tB
    have h2 : W.heap[bs]? = some (.cells #[.string s] 9 (0, 0)) := h.text
    rw [h1, h2]
  · refine ⟨h.db.trans db5, Nat.le_trans h.sz (by omega), ⟨v', lB, ?_⟩, ?_, tB⟩
    · have o1 : (w5.setCell ⟨bl, 0, none⟩ v').ownsRow B 29 3 v' _ _ := own_kept (row := some bl) hown ⟨rfl, rfl, rfl, kA.size, fun k _ hne => heap_setCell_other w5 ⟨bl, 0, none⟩ k v' (fun e => hne (by rw [e]))⟩ (fun r e hv => by cases e; have := (own_cells hown hv).1; omega)
      have o2 := own_kept (B := (w5.setCell ⟨bl, 0, none⟩ v').setCell ⟨be, 0, none⟩ (.int .i64 u)) (row := some be) o1 ⟨rfl, rfl, rfl, kB.size, fun k _ hne => heap_setCell_other _ ⟨be, 0, none⟩ k _ (fun e => hne (by rw [e]))⟩ (fun r e hv => by cases e; have := (own_cells o1 hv).1; omega)
      unfold OwnM
      rw [List.map_append, txt_append, flatM_append, List.length_append]
      exact o2
    · rw [List.map_append, List.map_cons, List.map_nil, lastEnd_snoc]
      rw [hu] at eB ⊢
      exact eB
end Go.Proofs.Ytogobjokjpddbaa
