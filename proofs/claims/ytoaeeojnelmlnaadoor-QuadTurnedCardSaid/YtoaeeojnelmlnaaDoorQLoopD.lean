/-
  A loop whose rounds range over functions: the list of deferred marks grows by one a round; the function's way out past such a list.
-/
import Derived.Test.YtoaeeojnelmlnaaDoorQRangeC
import Derived.RangeFuncLeaves
namespace Go.Proofs.YtoaeeojnelmlnaaDoor
open Go.RowKit
set_option linter.unusedVariables false
set_option linter.unusedSimpArgs false
/-- The mark that a range over a function leaves. -/
def mkD (D : Nat) : Deferred := { target := .collected D, args := #[] }
/-- Marks of a call: blocks from B on, each for itself, none shut. -/
def Marks (W : World) (B : Nat) (ds : List Deferred) : Prop := ∃ L : List Nat, ds = L.map mkD ∧ L.Nodup ∧ ∀ D ∈ L, B ≤ D ∧ D < W.heap.size ∧ W.heap[D]? = some (.deferred (some []))
theorem Marks.nil (W : World) (B : Nat) : Marks W B [] := ⟨[], rfl, List.nodup_nil, fun _ h => by cases h⟩
theorem Marks.far {W W' : World} {B : Nat} {ds : List Deferred} {F : Nat → Prop} (h : Marks W B ds) (hf : Far F W W') (hF : ∀ k, B ≤ k → (W.heap[k]? = some (.deferred (some []))) → ¬ F k) : Marks W' B ds := by
  obtain ⟨L, e, hn, hL⟩ := h
  exact ⟨L, e, hn, fun D hD => ⟨(hL D hD).1, Nat.lt_of_lt_of_le (hL D hD).2.1 hf.size, (hf.block D (hL D hD).2.1 (hF D (hL D hD).1 (hL D hD).2.2)).trans (hL D hD).2.2⟩⟩
/-- The next mark lies behind all that were there when its range began. -/
theorem Marks.cons {W0 W : World} {B D : Nat} {ds : List Deferred} (h0 : Marks W0 B ds) (h : Marks W B ds) (hB : B ≤ D) (hD : W0.heap.size ≤ D) (hk : W.heap[D]? = some (.deferred (some []))) : Marks W B ({ target := .collected D, args := #[] } :: ds) := by
  obtain ⟨L0, e0, _, hL0⟩ := h0
  obtain ⟨L, e, hn, hL⟩ := h
  have inj : ∀ (A C : List Nat), A.map mkD = C.map mkD → A = C := fun A => by
    induction A with
    | nil => intro C h; cases C with
      | nil => rfl
      | cons _ _ => cases h
    | cons a A ih =>
      intro C h
      cases C with
      | nil => cases h
      | cons c C =>
        simp only [List.map_cons, List.cons.injEq, mkD, Deferred.mk.injEq, Target.collected.injEq, and_true] at h
        rw [h.1, ih C h.2]
  have hLL : L = L0 := inj L L0 (e ▸ e0)
  subst hLL
  refine ⟨D :: L, by rw [e]; rfl, List.nodup_cons.2 ⟨fun hm => by have := (hL0 D hm).2.1; omega, hn⟩, fun X hX => ?_⟩
  rcases List.mem_cons.1 hX with rfl | hX
  · exact ⟨hB, (Array.getElem?_eq_some_iff.1 hk).1, hk⟩
  · exact hL X hX
theorem putObj_far (W : World) (D : Nat) (o : Obj) : Far (fun k => k = D) W (W.putObj D o) := (Far.refl _ W).grown (grownBy_putObj' W D o) fun k _ e => by cases e; rfl
/-- The way out past marks alone. -/
theorem leave_list {F : Fence} {n : Nat} {P : Program} {fn : Func} {tmps : Array Value} {R : Ending → World → Prop} : ∀ (L : List Nat) (W : World), L.Nodup → (∀ D ∈ L, W.heap[D]? = some (.deferred (some []))) →
    (∀ W', Far (fun k => k ∈ L) W W' → ∃ v, (results fn tmps).run P W' = .ok v W' ∧ R (.returned v) W') → LeavesInM F n P fn tmps R (L.map mkD) .returning W
  | [], W, _, _, h => h W (Far.refl _ W)
  | D :: L, W, hn, hL, h => by
    have hD := hL D (List.mem_cons_self ..)
    refine ⟨by simp, .inl ⟨D, _, rfl, run_takeDeferred hD, leave_list L _ (List.nodup_cons.1 hn).2 (fun X hX => ?_) fun W' hf => h W' ?_⟩⟩
    · refine (World.putObj_heap_other ?_).trans (hL X (List.mem_cons_of_mem _ hX))
      intro e
      subst e
      exact (List.nodup_cons.1 hn).1 hX
    · exact ((putObj_far W D _).mono (G := fun k => k ∈ D :: L) fun k _ e => by rw [e]; exact List.mem_cons_self ..).trans (hf.mono (G := fun k => k ∈ D :: L) fun k _ e => List.mem_cons_of_mem _ e) fun _ _ h => h
theorem leave_marks {F : Fence} {n : Nat} {P : Program} {fn : Func} {tmps : Array Value} {R : Ending → World → Prop} {W : World} {B : Nat} {ds : List Deferred} (hm : Marks W B ds)
    (h : ∀ W', Far (fun k => B ≤ k ∧ W.heap[k]? = some (.deferred (some []))) W W' → ∃ v, (results fn tmps).run P W' = .ok v W' ∧ R (.returned v) W') : LeavesInM F n P fn tmps R ds .returning W := by
  obtain ⟨L, rfl, hn, hL⟩ := hm
  exact leave_list L W hn (fun D hD => (hL D hD).2.2) fun W' hf => h W' (hf.mono fun k _ e => ⟨(hL k e).1, (hL k e).2.2⟩)
/-- What a block of cells is, it stays on the way out. -/
theorem Bk.shut {W W' : World} {B g : Nat} {t : TypeId} {cs : Array Value} (h : Bk W g t cs) (hf : Far (fun k => B ≤ k ∧ W.heap[k]? = some (.deferred (some []))) W W') : Bk W' g t cs :=
  h.far' hf fun e => by have := e.2; rw [show W.heap[g]? = _ from h] at this; cases this
/-- The slots of a list, written anew. -/
def putS (T : Array Value) (sl : List Nat) (u : Nat → Value) : Array Value := sl.foldl (fun t i => t.setIfInBounds i (u i)) T
def getS (a : Act) : Nat → Value := fun i => a.tmps.getD i undef
/-- A loop, its frame told by slots, its deferred calls whatever they are. -/
theorem wp_loop_d {P : Program} {c : Code} {Q : Exit → Act → World → Prop} (sl : List Nat) (R : (Nat → Value) → List Deferred → World → Prop) (μ : (Nat → Value) → World → Nat) {T : Array Value} {ds : List Deferred} {w : World}
    (hT : putS T sl (fun i => T.getD i undef) = T) (h0 : R (fun i => T.getD i undef) ds w)
    (round : ∀ (u : Nat → Value) (d : List Deferred) (W : World), R u d W → c.wp P (Exit.then (fun a' W' => R (getS a') a'.defers W' ∧ μ (getS a') W' < μ u W ∧ a'.tmps = putS T sl (getS a')) Q) { tmps := putS T sl u, defers := d } W) :
    (Code.loop c).wp P Q { tmps := T, defers := ds } w := by
  refine wp_loop (fun a W => ∃ u d, R u d W ∧ a = { tmps := putS T sl u, defers := d } ∧ μ u W = μ (getS a) W ∧ True) (fun a W => μ (getS a) W) ⟨_, _, h0, by rw [hT], ?_, trivial⟩ ?_
  · rfl
  · rintro a W ⟨u, d, hR, rfl, hm, _⟩
    refine Code.wp_mono ?_ (round u d W hR)
    intro e a' W' h
    cases e with
    | normal =>
      obtain ⟨h1, h2, h3⟩ := h
      refine ⟨⟨getS a', a'.defers, h1, ?_, rfl, trivial⟩, by rw [← hm]; exact h2⟩
      cases a'
      simp only [Act.mk.injEq, and_true]
      exact h3
    | _ => exact h
/-- Open marks of a world are open still. -/
def DefK (A C : World) : Prop := A.heap.size ≤ C.heap.size ∧ ∀ k : Nat, A.heap[k]? = some (.deferred (some [])) → C.heap[k]? = some (.deferred (some []))
theorem DefK.refl (A : World) : DefK A A := ⟨Nat.le_refl _, fun _ h => h⟩
theorem DefK.far {A C D : World} {F : Nat → Prop} (h : DefK A C) (hf : Far F C D) (hF : ∀ k, F k → A.heap.size ≤ k ∨ ∃ t cs, Bk C k t cs) : DefK A D := by
  refine ⟨Nat.le_trans h.1 hf.size, fun k hk => ?_⟩
  have hlt := (Array.getElem?_eq_some_iff.1 hk).1
  have hc := h.2 k hk
  refine (hf.block k (Nat.lt_of_lt_of_le hlt h.1) fun e => ?_).trans hc
  rcases hF k e with h1 | ⟨t, cs, hb⟩
  · omega
  · rw [show C.heap[k]? = _ from hb] at hc
    cases hc
theorem Marks.defk {A C : World} {B : Nat} {ds : List Deferred} (h : Marks A B ds) (hd : DefK A C) : Marks C B ds := by
  obtain ⟨L, e, hn, hL⟩ := h
  exact ⟨L, e, hn, fun D hD => ⟨(hL D hD).1, Nat.lt_of_lt_of_le (hL D hD).2.1 hd.1, hd.2 D (hL D hD).2.2⟩⟩
end Go.Proofs.YtoaeeojnelmlnaaDoor
