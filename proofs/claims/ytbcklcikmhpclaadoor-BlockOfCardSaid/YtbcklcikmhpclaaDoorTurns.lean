/-
  One loop over the program's sequence of cells: what its body owes, what stands behind it.
-/
import Derived.Test.YtbcklcikmhpclaaDoorRound
namespace Go.Proofs.YtbcklcikmhpclaaDoor
open Go.RowKit Go.Shelf
set_option linter.unusedVariables false
set_option linter.unusedSimpArgs false
/-- Block g of memory is just these cells. -/
def Bk (w : World) (g : Nat) (t : TypeId) (cs : Array Value) : Prop := w.heap[g]? = some (.cells cs t (0, 0))
theorem Bk.lt {w : World} {g : Nat} {t : TypeId} {cs : Array Value} (h : Bk w g t cs) : g < w.heap.size := (Array.getElem?_eq_some_iff.1 h).1
theorem Bk.new {w : World} {g : Nat} {t : TypeId} {cs : Array Value} (h : g = w.heap.size) : Bk (w.alloc (.cells cs t)) g t cs := by subst h; exact heap_alloc_new w _
theorem Bk.alloc {w : World} {g : Nat} {t : TypeId} {cs : Array Value} (h : Bk w g t cs) (o : Obj) : Bk (w.alloc o) g t cs := (heap_alloc_old w o h.lt).trans h
theorem Bk.below {w w' : World} {g B : Nat} {t : TypeId} {cs : Array Value} (h : Bk w g t cs) (hb : Below B w w') (hg : g < B) : Bk w' g t cs := (hb.block g hg).trans h
theorem Bk.row {w : World} {g k : Nat} {t : TypeId} {cs : Array Value} (h : Bk w g t cs) (hk : g ≠ k) (Y : Array Value) : Bk (w.setRow k Y) g t cs := (setRow_other w k g Y (fun e => hk (by omega))).trans h
theorem Bk.cell {w : World} {g : Nat} {t : TypeId} {cs : Array Value} (h : Bk w g t cs) (i : Nat) : w.cell? ⟨g, i, none⟩ = cs[i]? := cell_of_row w g i cs t (0, 0) h
theorem Bk.free {w : World} {g : Nat} {t : TypeId} {cs : Array Value} (h : Bk w g t cs) (i : Nat) : w.frozen? ⟨g, i, none⟩ = false := frozen_of_row w g i cs t h
theorem Bk.set {w : World} {g : Nat} {t : TypeId} {cs : Array Value} (h : Bk w g t cs) (i : Nat) (u : Value) : Bk (w.setCell ⟨g, i, none⟩ u) g t (cs.setIfInBounds i u) := heap_setCell_same w g i cs t u h
theorem Bk.far {w : World} {g : Nat} {t : TypeId} {cs : Array Value} (h : Bk w g t cs) {p : Addr} (hp : g ≠ p.block) (u : Value) : Bk (w.setCell p u) g t cs := (heap_setCell_other w p g u hp).trans h
theorem Bk.grown {w w' : World} {g : Nat} {t : TypeId} {cs : Array Value} {row : Option Nat} (h : Bk w g t cs) (hg : w.grownBy w' row) (hne : some g ≠ row) : Bk w' g t cs := (hg.block g h.lt hne).trans h
theorem Bk.kept {w w' : World} {g : Nat} {t : TypeId} {cs : Array Value} {row : Option Nat} {B : Nat} (h : Bk w g t cs) (hg : w.grownBy w' row) (hr : ∀ r, row = some r → B ≤ r ∧ ∃ o : Obj, w.heap[r]? = some o ∧ o.isCells = false) : Bk w' g t cs :=
  h.grown hg fun e => by
    obtain ⟨_, o, ho, hc⟩ := hr g e.symm
    have : w.heap[g]? = some (.cells cs t (0, 0)) := h
    rw [this] at ho
    cases ho
    cases hc
theorem grown_on {W0 A B : World} {bn : Nat} {row : Option Nat} (h : W0.grownBy A (some bn)) (hg : A.grownBy B row) (hr : ∀ r, row = some r → W0.heap.size ≤ r ∨ r = bn) : W0.grownBy B (some bn) :=
  ⟨hg.os.trans h.os, hg.tape.trans h.tape, hg.output.trans h.output, Nat.le_trans h.size hg.size, fun k hk hne => by
    refine (hg.block k (Nat.lt_of_lt_of_le hk h.size) fun e => ?_).trans (h.block k hk hne)
    rcases hr k e.symm with h1 | h1
    · omega
    · exact hne (by rw [h1])⟩
theorem step_end {W1 : World} {bn n₀ nq B : Nat} {t : TypeId} {old u : Value} (hN : Bk W1 bn t #[old]) (hn : n₀ ≤ bn) :
    KeepsFrom B W1 ((W1.drewN nq).setCell ⟨bn, 0, none⟩ u) ∧ Below n₀ W1 ((W1.drewN nq).setCell ⟨bn, 0, none⟩ u) ∧ W1.grownBy ((W1.drewN nq).setCell ⟨bn, 0, none⟩ u) (some bn) ∧ Bk ((W1.drewN nq).setCell ⟨bn, 0, none⟩ u) bn t #[u] := by
  have hN' : Bk (W1.drewN nq) bn t #[old] := hN
  have hk := KeepsOthers.setCell (W1.drewN nq) ⟨bn, 0, none⟩ u
  have hb : Below n₀ W1 (W1.drewN nq) := ⟨rfl, rfl, rfl, Nat.le_refl _, fun _ _ => rfl⟩
  refine ⟨⟨hk.size, fun k o _ h hc => hk.same k o h hc⟩, hb.setCell (p := ⟨bn, 0, none⟩) hn u, ?_, ?_⟩
  · exact ⟨rfl, rfl, rfl, hk.size, fun k _ hne => heap_setCell_other (W1.drewN nq) ⟨bn, 0, none⟩ k u (fun e => hne (by rw [e]))⟩
  · exact hN'.set 0 u
theorem drew_end {W1 : World} {n₀ nq B : Nat} : KeepsFrom B W1 (W1.drewN nq) := ⟨Nat.le_refl _, fun _ _ _ h _ => h⟩
theorem flat_at : ∀ (l : List (Nat × Nat)) (m r c : Nat), l[m]? = some (r, c) → (flat l)[m * 2]? = some (.int .i64 (r : Int)) ∧ (flat l)[m * 2 + 1]? = some (.int .i64 (c : Int))
  | [], _, _, _, h => by simp at h
  | (a, b) :: l, 0, r, c, h => by simp at h; obtain ⟨rfl, rfl⟩ := h; exact ⟨rfl, rfl⟩
  | (a, b) :: l, m + 1, r, c, h => by
    have ih := flat_at l m r c (by simpa using h)
    rw [show (m + 1) * 2 = m * 2 + 1 + 1 by omega]
    exact ih
theorem prefix_next {pre l : List (Nat × Nat)} {x y : Nat × Nat} (hp : pre <+: l) (hy : l[pre.length]? = some y) : (pre ++ [x]) <+: l ↔ x = y := by
  obtain ⟨t, rfl⟩ := hp
  rw [List.getElem?_append_right (Nat.le_refl _), Nat.sub_self] at hy
  cases t with
  | nil => simp at hy
  | cons z t =>
    have hz : z = y := by simpa using hy
    rw [List.prefix_append_right_inj]
    subst hz
    simp [List.cons_prefix_cons]
/-- The slots of a round: the sequence's value, the loop's variable. -/
def slots (T : Array Value) (x : Nat × Nat) (Bx : Nat) : Act :=
  { tmps := (T.setIfInBounds 70 (.agg #[.int .i64 (x.1 : Int), .int .i64 (x.2 : Int)])).setIfInBounds 15 (.pointer (some ⟨Bx, 0, none⟩)), defers := [] }
def ITurn (f : Nat → Nat) (W0 : World) (bn : Nat) (pre : List (Nat × Nat)) (W : World) : Prop :=
  W0.grownBy W (some bn) ∧ Bk W bn 3 #[.int .i64 (pre.length : Int)] ∧ pre <+: cellsUp f 64
def XTurn (f : Nat → Nat) (W0 : World) (bn : Nat) (br : Bool) (c : Code) (pre : List (Nat × Nat)) (W : World) : Prop :=
  (c = .ret ∧ ¬ pre <+: cellsUp f 64) ∨ (c = .exit 4 ∧ br = true ∧ W0.grownBy W (some bn) ∧ Bk W bn 3 #[.int .i64 (pre.length : Int)])
theorem turn_law {g : Operand} {assign body : Code} {Q : Exit → Act → World → Prop} {T : Array Value} {ds : List Deferred} {W0 : World} (f : Nat → Nat) (hf : Wf f) (bs bn n₀ : Nat) (br : Bool)
    (hg : (Act.mk T ds).eval g = .func (.func 27) #[] #[.pointer (some ⟨bs, 0, none⟩)])
    (hbs : Hold W0 bs (Rw f)) (hT : Tab W0) (hglob : 0 < n₀) (hn0 : n₀ ≤ W0.heap.size) (hbn : Bk W0 bn 3 #[.int .i64 0])
    (hassign : ∀ (l : Nat) (x : Nat × Nat) (W : World) (K : Act → World → Prop), K (slots T x W.heap.size) (W.alloc (.cells #[.int .i64 (x.1 : Int), .int .i64 (x.2 : Int)] 31)) →
      assign.wpIn (Fence.wide.inRound l) (10 - 1 - 1) Tryd.prog (Exit.then K (fun _ _ _ => False)) { tmps := T.setIfInBounds 70 (.agg #[.int .i64 (x.1 : Int), .int .i64 (x.2 : Int)]), defers := [] } W)
    (hbody : ∀ (l : Nat) (pre : List (Nat × Nat)) (x : Nat × Nat) (Bx : Nat) (W : World), W0.heap.size ≤ Bx → Bk W Bx 31 #[.int .i64 (x.1 : Int), .int .i64 (x.2 : Int)] → ITurn f W0 bn pre W → pre.length < (cellsUp f 64).length →
      body.wpIn (Fence.wide.inRound l) (10 - 1 - 1) Tryd.prog (ownPostG W0.heap.size (Below n₀) (ITurn f W0 bn) (XTurn f W0 bn br) (pre ++ [x]) W) (slots T x Bx) W)
    (hdone : ∀ (D : Nat) (W : World), W0.heap.size ≤ D → W0.grownBy W (some bn) → Bk W bn 3 #[.int .i64 ((cellsUp f 64).length : Int)] → W.heap[D]? = some (.deferred (some [])) → Q .normal { tmps := T, defers := { target := .collected D, args := #[] } :: ds } W)
    (hstop : br = true → ∀ (D m : Nat) (W : World), W0.heap.size ≤ D → W0.grownBy W (some bn) → Bk W bn 3 #[.int .i64 (m : Int)] → W.heap[D]? = some (.deferred (some [])) → (Code.exit 4).wp Tryd.prog Q { tmps := T, defers := { target := .collected D, args := #[] } :: ds } W) :
    (Code.rangeFunc g #[70] assign body).wp Tryd.prog Q { tmps := T, defers := ds } W0 := by
  refine (wpIn_wide (n := 10)).1 ?_
  refine wpIn_rangeFunc_ownH rfl (by decide) (gf := 27) (lb := #[.pointer (some ⟨bs, 0, none⟩)]) hg trivial (enters_of Tryd.func27 (by kernel_rfl) rfl)
    (cells_stops (10 - 1) (by decide) f hf bs n₀ W0 hbs hT hglob) belowK_t (belowK_b hn0) (Below.refl _ _) (fun _ => rfl)
    (ITurn f W0 bn) (XTurn f W0 bn br) (fun s A B row hs hg hr => ⟨grown_on hs.1 hg fun r e => .inl (hr r e).1, hs.2.1.kept hg hr, hs.2.2⟩)
    (fun c s A B row hs hg hr => hs.imp id fun ⟨h1, h2, h3, h4⟩ => ⟨h1, h2, grown_on h3 hg fun r e => .inl (hr r e).1, h4.kept hg hr⟩)
    ⟨World.grownBy.refl W0 _, hbn, List.nil_prefix⟩
    (fun x a' W => ∃ Bx, W0.heap.size ≤ Bx ∧ Bk W Bx 31 #[.int .i64 (x.1 : Int), .int .i64 (x.2 : Int)] ∧ a' = slots T x Bx)
    (fun x a' s A B row hs hg hr => by obtain ⟨Bx, h1, h2, h3⟩ := hs; exact ⟨Bx, h1, h2.kept hg hr, h3⟩) ?assign ?body ?done ?stop
  case assign =>
    intro l pre x W K hI hK
    have e : ((#[70] : Array Tmp).zip (encC x)).foldl (fun t (p, v) => t.setIfInBounds p v) T = T.setIfInBounds 70 (.agg #[.int .i64 (x.1 : Int), .int .i64 (x.2 : Int)]) := by simp [encC]
    show assign.wpIn _ _ _ _ { tmps := ((#[70] : Array Tmp).zip (encC x)).foldl (fun t (p, v) => t.setIfInBounds p v) T, defers := [] } W
    rw [e]
    refine hassign l x W K (hK _ _ ((KeepsOthers.alloc _ _).from _) ((Below.refl _ W).alloc (Nat.le_trans hn0 hI.1.size) _) ?_ ⟨W.heap.size, hI.1.size, Bk.new rfl, rfl⟩)
    exact ⟨grown_on hI.1 (World.grownBy_alloc W _ none) (fun r e => by cases e), hI.2.1.alloc _, hI.2.2⟩
  case body =>
    rintro l pre x a' W _ _ hI ⟨Bx, h1, h2, rfl⟩ hlt
    exact hbody l pre x Bx W h1 h2 hI hlt
  case done =>
    intro D xs W hD hxs hI hK
    have hx : xs = cellsUp f 64 := hxs
    clear hxs
    generalize cellsUp f 64 = all at *
    subst hx
    exact hdone D W hD hI.1 hI.2.1 hK
  case stop =>
    rintro D c pre W hD hS hX hK
    rcases hX with ⟨rfl, h1⟩ | ⟨rfl, h1, h2, h3⟩
    · exact absurd hS h1
    · exact wpIn_wide.2 (hstop h1 D _ W hD h2 h3 hK)
end Go.Proofs.YtbcklcikmhpclaaDoor
