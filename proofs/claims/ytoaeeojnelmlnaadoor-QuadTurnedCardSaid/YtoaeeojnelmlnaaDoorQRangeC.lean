/-
  A range over a block's cells, from any frame.
-/
import Derived.Test.YtoaeeojnelmlnaaDoorQRowsP
namespace Go.Proofs.YtoaeeojnelmlnaaDoor
open Go.RowKit Go.Shelf
set_option linter.unusedVariables false
set_option linter.unusedSimpArgs false
theorem Tab.lt {w : World} (h : Tab w) : 0 < w.heap.size := block_lt_of_cell (h 0 (by decide))
theorem range_bc {g : Operand} {p q : Nat} {assign body : Code} {Q : Exit → Act → World → Prop} {T : Array Value} {ds : List Deferred} {w : World} (f : Nat → Nat) (hf : Wf f) (bx : Nat) (hX : Hold w bx (Rw f)) (hT : Tab w)
    (hg : Act.eval { tmps := T, defers := ds } g = .func (.func 112) #[] #[.pointer (some ⟨bx, 0, none⟩)])
    (I : List (Nat × Nat) → World → Prop) (hI : OwnFrom w.heap.size I) (h0 : I [] w) (hsz : ∀ pre W, I pre W → w.heap.size ≤ W.heap.size) (Iq : Nat → Nat × Nat → List (Nat × Nat) → World → Prop) (hIq : ∀ k x, OwnFrom w.heap.size (Iq k x))
    (hmk : ∀ x pre W, (pre ++ [x]) <+: cellsUp f 64 → I pre W → Iq W.heap.size x pre (W.alloc (.cells #[.int .i64 (x.1 : Nat), .int .i64 (x.2 : Nat)] 58)))
    (hassign : ∀ (L : Nat) (x : Nat × Nat) (W : World) (KK : Act → World → Prop), KK { tmps := (T.setIfInBounds p (.agg #[.int .i64 (x.1 : Nat), .int .i64 (x.2 : Nat)])).setIfInBounds q (.pointer (some ⟨W.heap.size, 0, none⟩)), defers := [] } (W.alloc (.cells #[.int .i64 (x.1 : Nat), .int .i64 (x.2 : Nat)] 58)) →
      assign.wpIn (Fence.wide.inRound L) (10 - 1 - 1) Tryd.prog (Exit.then KK (fun _ _ _ => False)) { tmps := T.setIfInBounds p (.agg #[.int .i64 (x.1 : Nat), .int .i64 (x.2 : Nat)]), defers := [] } W)
    (hbody : ∀ (L : Nat) (pre : List (Nat × Nat)) (x : Nat × Nat) (k : Nat) (W : World), w.heap.size ≤ L → (pre ++ [x]) <+: cellsUp f 64 → Iq k x pre W →
      body.wpIn (Fence.wide.inRound L) (10 - 1 - 1) Tryd.prog (ownPostG w.heap.size (KeepS TabK) I (fun _ _ _ => False) (pre ++ [x]) W) { tmps := (T.setIfInBounds p (.agg #[.int .i64 (x.1 : Nat), .int .i64 (x.2 : Nat)])).setIfInBounds q (.pointer (some ⟨k, 0, none⟩)), defers := [] } W)
    (hdone : ∀ (D : Nat) (W : World), w.heap.size ≤ D → I (cellsUp f 64) W → W.heap[D]? = some (.deferred (some [])) → Q .normal { tmps := T, defers := { target := .collected D, args := #[] } :: ds } W) :
    (Code.rangeFunc g #[p] assign body).wp Tryd.prog Q { tmps := T, defers := ds } w := by
  refine (wpIn_wide (n := 10)).1 ?_
  have hA : ∀ (W : World) o, Far (fun _ => False) W (W.alloc o) := fun W o => (Far.refl _ W).alloc o
  refine range_ok (by decide) hg (enters_of Tryd.func112 (by kernel_rfl) rfl) (bcells_seq (10 - 1) (by decide) f hf bx w hX hT) keepS_t (fun W L o o' hL _ _ => keepS_put (B := w.heap.size) (fun k hk => by rw [show k = _ from hk]; exact hT.lt) W L o o' hL) (fun _ => rfl)
    I (fun _ _ _ => False) hI (fun _ _ _ _ _ h _ _ => h.elim) h0 (fun pre x a' W => ((pre ++ [x]) <+: cellsUp f 64) ∧ ∃ k, Iq k x pre W ∧ a' = { tmps := (T.setIfInBounds p (.agg #[.int .i64 (x.1 : Nat), .int .i64 (x.2 : Nat)])).setIfInBounds q (.pointer (some ⟨k, 0, none⟩)), defers := [] }) ?_ ?_ ?_ (fun D xs W hD hS h1 hK => ?_) (fun D c pre W _ _ h _ => h.elim)
  · rintro pre x a' s A C row ⟨h1, k, h2, e⟩ hgr hr
    exact ⟨h1, k, hIq k x _ _ _ _ h2 hgr hr, e⟩
  · intro L pre x W KK hI' hok hK'
    have h9 := hassign L x W KK (hK' _ _ (keeps_far (hA W _) fun _ h => h.elim) ⟨KeepK.of_far (hA W _) fun k hk => ⟨by rw [show k = _ from hk]; exact Nat.lt_of_lt_of_le hT.lt (hsz _ _ hI'), id⟩, (hA W _).size⟩ (hI _ _ _ none hI' (far_grown (hA W _)) (fun r e => by cases e)) ⟨hok, W.heap.size, hmk x pre W hok hI', rfl⟩)
    simp only [encC, List.zip_toArray, List.zip_cons_cons, List.zip_nil_right, List.foldl_toArray', List.foldl_cons, List.foldl_nil]
    exact h9
  · rintro L pre x a' W hL hI' ⟨h1, k, h2, rfl⟩
    exact hbody L pre x k W hL h1 h2
  · subst hS
    exact hdone D W hD h1 hK
end Go.Proofs.YtoaeeojnelmlnaaDoor
