/-
  A row's reach by a stack of what is still to be looked at: the arithmetic of it; and a slice of numbers of the call's own.
-/
import Derived.Test.YtbcklcikmhpclaaDoorClosure
import Derived.Test.YtbcklcikmhpclaaDoorFold
import Derived.OwnWalk
import Derived.Laws.OwnMore
namespace Go.Proofs.YtbcklcikmhpclaaDoor
open Go.RowKit
set_option linter.unusedVariables false
set_option linter.unusedSimpArgs false
/-- What is there before row r is done, X of row r found. -/
noncomputable def cr (f : Nat → Nat) (r : Nat) (X : Nat → Bool) (i j : Nat) : Bool := if i < r then closS f i j else if i = r then X j else false
theorem cr_zero (f : Nat → Nat) : Rw (fun _ => 0) = Rw (blk (cr f 0 fun _ => false)) :=
  Rw_blk (fun _ _ => by decide) fun r c _ _ => by unfold cr; simp
/-- One more is found. -/
def put1 (X : Nat → Bool) (c : Nat) : Nat → Bool := fun j => X j || decide (j = c)
theorem cr_hit (f : Nat → Nat) (r c : Nat) (X : Nat → Bool) (hr : r < 64) (hc : c < 64) : Rw (putB (blk (cr f r X)) r c) = Rw (blk (cr f r (put1 X c))) :=
  Rw_blk (Wf.putB (blk_wf _) hr hc) fun i j hi hj => by
    rw [putB_bit, blk_bit _ _ _ hj]
    unfold cr put1
    by_cases e1 : i < r
    · simp [e1, show ¬ i = r by omega]
    · by_cases e2 : i = r
      · simp [e2]
      · simp [e1, e2]
theorem cr_next (f : Nat → Nat) (r : Nat) (X : Nat → Bool) (h : ∀ c, c < 64 → X c = closS f r c) : Rw (blk (cr f r X)) = Rw (blk (cr f (r + 1) fun _ => false)) :=
  blk_congr fun i j hi hj => by
    unfold cr
    by_cases e1 : i < r
    · simp [e1, show i < r + 1 by omega]
    · by_cases e2 : i = r
      · subst e2; simp [h j hj]
      · simp [e1, e2, show ¬ i < r + 1 by omega]
theorem cr_end (f : Nat → Nat) (X : Nat → Bool) : Rw (blk (cr f 64 X)) = Rw (blk (closS f)) :=
  blk_congr fun i j hi hj => by unfold cr; rw [if_pos hi]
theorem cr_bit (f : Nat → Nat) (r c : Nat) (X : Nat → Bool) (hc : c < 64) : bt (blk (cr f r X)) r c = X c := by
  rw [bt_blk _ _ _ hc]; unfold cr; simp
/-- The row is being worked on: X is found, L is still to be looked at. -/
structure CI (f : Nat → Nat) (r : Nat) (X : Nat → Bool) (L : List Nat) : Prop where
  rlt : r < 64
  sound : ∀ c, c < 64 → X c = true → Plus f r c
  stack : ∀ k, k ∈ L → k < 64 ∧ (k = r ∨ X k = true)
  full : ∀ k, k < 64 → k = r ∨ X k = true → k ∈ L ∨ ∀ c, c < 64 → bt f k c = true → X c = true
theorem CI.start (f : Nat → Nat) {r : Nat} (hr : r < 64) : CI f r (fun _ => false) [r] :=
  ⟨hr, fun _ _ h => (by cases h), fun k hk => by simp at hk; subst hk; exact ⟨hr, .inl rfl⟩, fun k _ h => .inl (by rcases h with rfl | h <;> simp_all)⟩
theorem CI.done {f : Nat → Nat} {r : Nat} {X : Nat → Bool} (h : CI f r X []) : ∀ c, c < 64 → X c = closS f r c := fun c hc => by
  rw [Bool.eq_iff_iff, closS_iff]
  refine ⟨h.sound c hc, fun hp => ?_⟩
  have key : ∀ {a b : Nat}, Plus f a b → a = r → X b = true := fun {a b} hp => by
    induction hp with
    | one h1 h2 h3 =>
      intro e; subst e
      rcases h.full _ h1 (.inl rfl) with hm | hm
      · cases hm
      · exact hm _ h2 h3
    | more hp hk hc' hb ih =>
      intro e
      rcases h.full _ hk (.inr (ih e)) with hm | hm
      · cases hm
      · exact hm _ hc' hb
  exact key hp rfl
/-- k was taken off, and its columns below c are looked at. -/
structure CJ (f : Nat → Nat) (r k c : Nat) (X : Nat → Bool) (L : List Nat) : Prop where
  rlt : r < 64
  klt : k < 64
  kin : k = r ∨ X k = true
  sound : ∀ c, c < 64 → X c = true → Plus f r c
  stack : ∀ k, k ∈ L → k < 64 ∧ (k = r ∨ X k = true)
  full : ∀ q, q < 64 → q = r ∨ X q = true → q ∈ L ∨ (∀ j, j < 64 → bt f q j = true → X j = true) ∨ (q = k ∧ ∀ j, j < c → bt f k j = true → X j = true)
theorem CJ.start {f : Nat → Nat} {r k : Nat} {X : Nat → Bool} {L : List Nat} (h : CI f r X (L ++ [k])) : CJ f r k 0 X L :=
  ⟨h.rlt, (h.stack k (by simp)).1, (h.stack k (by simp)).2, h.sound, fun q hq => h.stack q (by simp [hq]), fun q hq hx => by
    rcases h.full q hq hx with hm | hm
    · rw [List.mem_append] at hm
      rcases hm with hm | hm
      · exact .inl hm
      · exact .inr (.inr ⟨by simpa using hm, fun j hj => absurd hj (by omega)⟩)
    · exact .inr (.inl hm)⟩
theorem CJ.skip {f : Nat → Nat} {r k c : Nat} {X : Nat → Bool} {L : List Nat} (h : CJ f r k c X L) (hs : bt f k c = true → X c = true) : CJ f r k (c + 1) X L :=
  ⟨h.rlt, h.klt, h.kin, h.sound, h.stack, fun q hq hx => by
    rcases h.full q hq hx with hm | hm | ⟨rfl, hm⟩
    · exact .inl hm
    · exact .inr (.inl hm)
    · refine .inr (.inr ⟨rfl, fun j hj hb => ?_⟩)
      by_cases e : j = c
      · subst e; exact hs hb
      · exact hm j (by omega) hb⟩
theorem put1_mono {X : Nat → Bool} {c j : Nat} (h : X j = true) : put1 X c j = true := by unfold put1; rw [h]; rfl
theorem CJ.push {f : Nat → Nat} {r k c : Nat} {X : Nat → Bool} {L : List Nat} (h : CJ f r k c X L) (hc : c < 64) (hb : bt f k c = true) : CJ f r k (c + 1) (put1 X c) (L ++ [c]) :=
  ⟨h.rlt, h.klt, h.kin.imp id put1_mono, fun j hj hx => by
    unfold put1 at hx
    rw [Bool.or_eq_true] at hx
    rcases hx with hx | hx
    · exact h.sound j hj hx
    · have e : j = c := by simpa using hx
      subst e
      rcases h.kin with rfl | hk
      · exact .one h.klt hj hb
      · exact .more (h.sound k h.klt hk) h.klt hj hb, fun q hq => by
    rw [List.mem_append] at hq
    rcases hq with hq | hq
    · exact ⟨(h.stack q hq).1, (h.stack q hq).2.imp id put1_mono⟩
    · have e : q = c := by simpa using hq
      subst e
      exact ⟨hc, .inr (by unfold put1; simp)⟩, fun q hq hx => by
    by_cases e : q = c
    · exact .inl (by simp [e])
    · have hx' : q = r ∨ X q = true := by
        rcases hx with hx | hx
        · exact .inl hx
        · unfold put1 at hx; simp [e] at hx; exact .inr hx
      rcases h.full q hq hx' with hm | hm | ⟨rfl, hm⟩
      · exact .inl (by simp [hm])
      · exact .inr (.inl fun j hj hb' => put1_mono (hm j hj hb'))
      · refine .inr (.inr ⟨rfl, fun j hj hb' => ?_⟩)
        by_cases e2 : j = c
        · subst e2; unfold put1; simp
        · exact put1_mono (hm j (by omega) hb')⟩
theorem CJ.stop {f : Nat → Nat} {r k : Nat} {X : Nat → Bool} {L : List Nat} (h : CJ f r k 64 X L) : CI f r X L :=
  ⟨h.rlt, h.sound, h.stack, fun q hq hx => by
    rcases h.full q hq hx with hm | hm | ⟨rfl, hm⟩
    · exact .inl hm
    · exact .inr hm
    · exact .inr hm⟩
/-- How many columns are found. -/
def fnd (X : Nat → Bool) : Nat := (List.range 64).countP X
theorem fnd_le (X : Nat → Bool) : fnd X ≤ 64 := by
  have := List.countP_le_length (p := X) (l := List.range 64)
  simpa [fnd] using this
theorem fnd_put {X : Nat → Bool} {c : Nat} (hc : c < 64) (h : X c = false) : fnd X < fnd (put1 X c) :=
  countP_lt _ _ _ (fun j _ hj => put1_mono hj) ⟨c, by simpa using hc, by unfold put1; simp, h⟩
/-- The numbers of a list, as cells. -/
abbrev ints (L : List Nat) : List Value := L.map fun (x : Nat) => .int .i64 (x : Int)
abbrev Own (w0 w : World) (v : Value) (n : Nat) (L : List Nat) : Prop := w.ownsRow (w0.heap.size + 3) 3 1 v n (ints L)
theorem own_keep {w w' : World} {base n cap g : Nat} {e : TypeId} {size : Nat} {xs : List Value} (h : w.ownsRow base e size (.slice (some ⟨g, 0, none⟩) n cap) n xs) (hb : w'.heap[g]? = w.heap[g]?) : w'.ownsRow base e size (.slice (some ⟨g, 0, none⟩) n cap) n xs := by
  refine ⟨h.1, ?_⟩
  rcases h.2 with ⟨h0, _⟩ | ⟨g', cap', cur, hv, hbb, hh, rest⟩
  · cases h0
  · refine .inr ⟨g', cap', cur, hv, hbb, ?_, rest⟩
    injection hv with h1 h2 h3
    injection h1 with h1
    injection h1 with h1
    subst h1
    rw [hb]; exact hh
theorem own_in {w : World} {base n cap g : Nat} {e : TypeId} {size : Nat} {xs : List Value} (h : w.ownsRow base e size (.slice (some ⟨g, 0, none⟩) n cap) n xs) : base ≤ g ∧ g < w.heap.size := h.lt g rfl
theorem own_cap {w : World} {base n cap g : Nat} {e : TypeId} {size : Nat} {xs : List Value} (h : w.ownsRow base e size (.slice (some ⟨g, 0, none⟩) n cap) n xs) : n ≤ cap := by
  rcases h.2 with ⟨h0, _⟩ | ⟨g', cap', cur, hv, _, _, h1, _⟩
  · cases h0
  · injection hv with e1 e2 e3
    omega
theorem own_below {w w' : World} {base n cap g B : Nat} {e : TypeId} {size : Nat} {xs : List Value} (h : w.ownsRow base e size (.slice (some ⟨g, 0, none⟩) n cap) n xs) (hb : Below B w w') (hB : w.heap.size ≤ B) : w'.ownsRow base e size (.slice (some ⟨g, 0, none⟩) n cap) n xs :=
  own_keep h (hb.block g (by have := (own_in h).2; omega))
theorem own_row {w : World} {base n cap g k : Nat} {e : TypeId} {size : Nat} {xs : List Value} (h : w.ownsRow base e size (.slice (some ⟨g, 0, none⟩) n cap) n xs) (hk : k < base) (Y : Array Value) : (w.setRow k Y).ownsRow base e size (.slice (some ⟨g, 0, none⟩) n cap) n xs :=
  own_keep h (setRow_other w k g Y (by have := (own_in h).1; omega))
/-- The last one is cut off. -/
theorem own_cut {w : World} {base m cap g : Nat} {e : TypeId} {xs : List Value} {u : Value} (h : w.ownsRow base e 1 (.slice (some ⟨g, 0, none⟩) (m + 1) cap) (m + 1) (xs ++ [u])) : w.ownsRow base e 1 (.slice (some ⟨g, 0, none⟩) m cap) m xs := by
  have hl := h.1
  simp at hl
  refine ⟨by omega, ?_⟩
  rcases h.2 with ⟨h0, _⟩ | ⟨g', cap', cur, hv, hbb, hh, h1, h2, h3, h4⟩
  · cases h0
  · refine .inr ⟨g', cap', cur, ?_, hbb, hh, by omega, h2, h3, ?_⟩
    · injection hv with e1 e2 e3
      rw [e1, e3]
    · have : (cur.toList.take ((m + 1) * 1)).take (m * 1) = (xs ++ [u]).take (m * 1) := by rw [h4]
      rw [List.take_take] at this
      rw [show min (m * 1) ((m + 1) * 1) = m * 1 by omega] at this
      rw [this, List.take_append_of_le_length (by omega), List.take_of_length_le (by omega)]
theorem own_last {w : World} {base m cap g : Nat} {e : TypeId} {xs : List Value} {u : Value} (h : w.ownsRow base e 1 (.slice (some ⟨g, 0, none⟩) (m + 1) cap) (m + 1) (xs ++ [u])) : w.cell? ⟨g, m, none⟩ = some u := by
  have hl := h.1
  simp at hl
  rw [h.cellAt m (by omega), List.getElem?_append_right (by omega)]
  simp [show m - xs.length = 0 by omega]
theorem own_one {w : World} {base x : Nat} {e : TypeId} (hb : base ≤ w.heap.size) : (w.alloc (.cells #[.int .i64 (x : Int)] e)).ownsRow base e 1 (.slice (some ⟨w.heap.size, 0, none⟩) 1 1) 1 (ints [x]) :=
  ⟨rfl, .inr ⟨_, 1, _, rfl, hb, heap_alloc_new w _, Nat.le_refl _, by decide, rfl, rfl⟩⟩
end Go.Proofs.YtbcklcikmhpclaaDoor
