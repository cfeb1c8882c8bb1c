/-
  An automaton as an argument.
-/
import Derived.Test.YtihlfphokgicbaaDoorArcMath
import Derived.Test.YtihlfphokgicbaaDoorPost
import Derived.Deep.Slices
import Derived.Deep.Fields
import Derived.ChangeMaps5
namespace Go.Proofs.YtihlfphokgicbaaDoor
open Go.ChangeMaps Go.ChangeShapes Go.WideShapes Go.ChangeAt Go.RowKit Go.Deep
set_option linter.unusedVariables false
set_option linter.unusedSimpArgs false
def numOf : Value → Int
  | .int _ n => n
  | _ => 0
def bitOf : Value → Bool
  | .bool b => b
  | _ => false
theorem intT : Tryd.prog.underlying 3 = some (.int .i64) := by kernel_rfl
theorem boolT : Tryd.prog.underlying 4 = some .bool := by kernel_rfl
theorem fitWf {a : Int} (h : (Lit.int .i64 a).wf = true) : Fit a := by
  have := bounds_i64 h
  unfold Fit; omega
theorem addNone (b off j : Nat) : (⟨b, off, none⟩ : Addr).add j = ⟨b, off + j, none⟩ := by simp [Addr.add]
theorem autoFields : ∃ f0 f1 f2 : Field, Tryd.prog.underlying 25 = some (.struct #[f0, f1, f2]) ∧ f0.type = 3 ∧ f1.type = 22 ∧ f2.type = 23 ∧ f0.offset = 0 ∧ f1.offset = 1 ∧ f2.offset = 2 := by
  exact ⟨_, _, _, Tryd.underlying25, rfl, rfl, rfl, rfl, rfl, rfl⟩
theorem autoCells : Tryd.prog.cellsOf 25 = 3 := by kernel_rfl
theorem arcFields : ∃ f0 f1 f2 : Field, Tryd.prog.underlying 49 = some (.struct #[f0, f1, f2]) ∧ f0.type = 3 ∧ f1.type = 38 ∧ f2.type = 3 ∧ f0.offset = 0 ∧ f1.offset = 1 ∧ f2.offset = 3 := by
  exact ⟨_, _, _, Tryd.underlying49, rfl, rfl, rfl, rfl, rfl, rfl⟩
theorem arcCells : Tryd.prog.cellsOf 49 = 4 := by kernel_rfl
theorem symFields : ∃ f0 f1 : Field, Tryd.prog.underlying 38 = some (.struct #[f0, f1]) ∧ f0.type = 4 ∧ f1.type = 3 ∧ f0.offset = 0 ∧ f1.offset = 1 := by
  exact ⟨_, _, Tryd.underlying38, rfl, rfl, rfl, rfl⟩
theorem symCells : Tryd.prog.cellsOf 38 = 2 := by kernel_rfl
theorem boolCells : Tryd.prog.cellsOf 4 = 1 := by kernel_rfl
theorem intCells : Tryd.prog.cellsOf 3 = 1 := by kernel_rfl
theorem sliceCells : Tryd.prog.cellsOf 22 = 1 := by kernel_rfl
theorem arcsCells : Tryd.prog.cellsOf 23 = 1 := by kernel_rfl
section
variable {H : Type} {enc : TypeId × Value → H} {w : World} {base : Nat} {held : Bool} {fuel : Nat} {x : DataW H × List MemPlace}
theorem open_numbers {c : Value} (hc : ∃ a n cap, c = .slice a n cap) (h : DataW.trod enc Tryd.prog w base (fun _ => true) held fuel 22 [c] = some x) : ∃ ao n cap f, c = .slice ao n cap ∧ n ≤ maxLen ∧ (∀ k, k < n → Fit (f k)) ∧ Ints w ao n f := by
  obtain ⟨a0, len0, cap0, rfl⟩ := hc
  rcases Go.Deep.open_slice Tryd.underlying22 h with ⟨hc, _⟩ | ⟨a, len, cap, m, n, D, Pl, hc, hb, hl, hm, hmm, hx, hi⟩
  · simp only [List.cons.injEq, Value.slice.injEq, and_true] at hc
    obtain ⟨rfl, rfl, rfl⟩ := hc
    exact ⟨none, 0, 0, fun _ => 0, rfl, by unfold maxLen; omega, fun k h => absurd h (Nat.not_lt_zero _), fun h => absurd h (Nat.lt_irrefl _)⟩
  · simp only [List.cons.injEq, Value.slice.injEq, and_true] at hc
    obtain ⟨rfl, rfl, rfl⟩ := hc
    rw [intCells] at hi
    have hlm : len0 ≤ m := by rw [hmm]; split <;> omega
    have hi' : ∀ i, i < m → ∃ x : Int, w.cell? (a.add i) = some (.int .i64 x) ∧ Fit x := by
      intro i him
      obtain ⟨cs', h1, h2⟩ := hi i him
      rw [Nat.mul_one] at h1
      obtain ⟨_, hlen, hcell⟩ := World.cells?_some h1
      match cs', hlen with
      | [c0], _ =>
        obtain ⟨x, ex, _, wx⟩ := DataW.trod_int intT h2
        simp at ex
        have k0 := hcell 0 (by omega)
        rw [Go.Deep.add_add] at k0
        exact ⟨x, by rw [Nat.add_zero] at k0; rw [k0, ex]; rfl, fitWf wx⟩
    refine ⟨some a, len0, cap0, fun i => numOf ((w.cell? (a.add i)).getD undef), rfl, by omega, fun k hk => ?_, fun h0 => ?_⟩
    · obtain ⟨x, e0, wx⟩ := hi' k (by omega)
      dsimp only
      rw [e0]
      exact wx
    · obtain ⟨b, off, spot⟩ := a
      have hsp : spot = none := by
        obtain ⟨x, e0, _⟩ := hi' 0 (by omega)
        cases spot with
        | none => rfl
        | some x =>
          simp only [Addr.add, if_true, World.cell?] at e0
          split at e0 <;> simp at e0
      subst hsp
      refine ⟨b, off, rfl, ?_, fun k hk => ?_⟩
      · obtain ⟨x, e0, _⟩ := hi' 0 (by omega)
        rw [addNone] at e0
        exact World.block_lt_of_cell? w _ e0
      · obtain ⟨x, e0, _⟩ := hi' k (by omega)
        dsimp only
        rw [e0]
        rw [addNone] at e0
        exact e0
theorem open_arcs {c : Value} (hc : ∃ a n cap, c = .slice a n cap) (h : DataW.trod enc Tryd.prog w base (fun _ => true) held fuel 23 [c] = some x) : ∃ ao n cap g, c = .slice ao n cap ∧ n ≤ maxLen ∧ (∀ k, k < n → FitA (g k)) ∧ Arcs w ao n g := by
  obtain ⟨a0, len0, cap0, rfl⟩ := hc
  obtain ⟨f0, f1, f2, hs, t0, t1, t2, o0, o1, o2⟩ := arcFields
  obtain ⟨s0, s1, hs', u0, u1, p0, p1⟩ := symFields
  rcases Go.Deep.open_slice Tryd.underlying23 h with ⟨hc, _⟩ | ⟨a, len, cap, m, n, D, Pl, hc, hb, hl, hm, hmm, hx, hi⟩
  · simp only [List.cons.injEq, Value.slice.injEq, and_true] at hc
    obtain ⟨rfl, rfl, rfl⟩ := hc
    exact ⟨none, 0, 0, fun _ => (0, false, 0, 0), rfl, by unfold maxLen; omega, fun k h => absurd h (Nat.not_lt_zero _), fun h => absurd h (Nat.lt_irrefl _)⟩
  · simp only [List.cons.injEq, Value.slice.injEq, and_true] at hc
    obtain ⟨rfl, rfl, rfl⟩ := hc
    rw [arcCells] at hi
    have hlm : len0 ≤ m := by rw [hmm]; split <;> omega
    have hi' : ∀ i, i < m → ∃ (x : Int) (b : Bool) (y z : Int), w.cell? (a.add (i * 4)) = some (.int .i64 x) ∧ w.cell? (a.add (i * 4 + 1)) = some (.bool b) ∧ w.cell? (a.add (i * 4 + 2)) = some (.int .i64 y) ∧ w.cell? (a.add (i * 4 + 3)) = some (.int .i64 z) ∧ Fit x ∧ Fit y ∧ Fit z := by
      intro i him
      obtain ⟨cs', h1, h2⟩ := hi i him
      obtain ⟨_, hlen, hcell⟩ := World.cells?_some h1
      match cs', hlen with
      | [c0, c1, c2, c3], _ =>
        obtain ⟨xs, n', hn', hD, _, hxl, hfld⟩ := DataW.trod_struct hs h2
        have g0 := hfld 0 f0 rfl
        have g1 := hfld 1 f1 rfl
        have g2 := hfld 2 f2 rfl
        rw [o0, t0, intCells] at g0
        rw [o1, t1, symCells] at g1
        rw [o2, t2, intCells] at g2
        match xs, hxl with
        | [x0, x1, x2], _ =>
          obtain ⟨x, ex, _, wx⟩ := DataW.trod_int intT g0
          obtain ⟨z, ez, _, wz⟩ := DataW.trod_int intT g2
          obtain ⟨ys, n'', _, _, _, hyl, hfld'⟩ := DataW.trod_struct hs' g1
          have q0 := hfld' 0 s0 rfl
          have q1 := hfld' 1 s1 rfl
          rw [p0, u0, boolCells] at q0
          rw [p1, u1, intCells] at q1
          match ys, hyl with
          | [y0, y1], _ =>
            obtain ⟨b, eb, _⟩ := DataW.trod_bool boolT q0
            obtain ⟨y, ey, _, wy⟩ := DataW.trod_int intT q1
            simp at ex ey ez eb
            have k0 := hcell 0 (by omega)
            have k1 := hcell 1 (by omega)
            have k2 := hcell 2 (by omega)
            have k3 := hcell 3 (by omega)
            rw [Go.Deep.add_add] at k0 k1 k2 k3
            exact ⟨x, b, y, z, by rw [Nat.add_zero] at k0; rw [k0, ex]; rfl, by rw [k1, eb]; rfl, by rw [k2, ey]; rfl, by rw [k3, ez]; rfl, fitWf wx, fitWf wy, fitWf wz⟩
    refine ⟨some a, len0, cap0, fun i => (numOf ((w.cell? (a.add (i * 4))).getD undef), bitOf ((w.cell? (a.add (i * 4 + 1))).getD undef), numOf ((w.cell? (a.add (i * 4 + 2))).getD undef), numOf ((w.cell? (a.add (i * 4 + 3))).getD undef)), rfl, by omega, fun k hk => ?_, fun h0 => ?_⟩
    · obtain ⟨x, b, y, z, e0, e1, e2, e3, wx, wy, wz⟩ := hi' k (by omega)
      dsimp only
      rw [e0, e1, e2, e3]
      exact ⟨wx, wy, wz⟩
    · obtain ⟨b, off, spot⟩ := a
      have hsp : spot = none := by
        obtain ⟨x, _, y, z, e0, _⟩ := hi' 0 (by omega)
        cases spot with
        | none => rfl
        | some x =>
          simp only [Nat.zero_mul, Addr.add, if_true, World.cell?] at e0
          split at e0 <;> simp at e0
      subst hsp
      refine ⟨b, off, rfl, ?_, fun k hk => ?_⟩
      · obtain ⟨x, _, y, z, e0, _⟩ := hi' 0 (by omega)
        rw [addNone] at e0
        exact World.block_lt_of_cell? w _ e0
      · obtain ⟨x, _, y, z, e0, e1, e2, e3, _⟩ := hi' k (by omega)
        dsimp only
        rw [e0, e1, e2, e3]
        rw [addNone] at e0 e1 e2 e3
        exact ⟨e0, by rw [Nat.add_assoc]; exact e1, by rw [Nat.add_assoc]; exact e2, by rw [Nat.add_assoc]; exact e3⟩
end
set_option maxRecDepth 100000 in
theorem open_auto {H : Type} {enc : TypeId × Value → H} {w : World} {base : Nat} {r : Reach} {b0 : Nat} {v : Value} {d : DataW H} {ps : List MemPlace} (hv : Value.okWide Tryd.prog w r b0 25 v)
    (h : DataW.Trod enc Tryd.prog w base (fun _ => true) true 25 v d ps) : ∃ S fo n fc f ao m ac g, v = .agg #[.int .i64 S, .slice fo n fc, .slice ao m ac] ∧ Fit S ∧ n ≤ maxLen ∧ m ≤ maxLen ∧ (∀ k, k < n → Fit (f k)) ∧ Ints w fo n f ∧ (∀ k, k < m → FitA (g k)) ∧ Arcs w ao m g := by
  obtain ⟨f0, f1, f2, hs, t0, t1, t2, o0, o1, o2⟩ := autoFields
  obtain ⟨cs, rfl, hsz⟩ := okWide_struct hs hv
  rw [autoCells] at hsz
  obtain ⟨fuel, hf⟩ := h
  match cs, hsz with
  | ⟨[c0, c1, c2]⟩, _ =>
    obtain ⟨xs, n', hn', hD, _, hxl, hfld⟩ := DataW.trod_struct hs hf
    have g0 := hfld 0 f0 rfl
    have g1 := hfld 1 f1 rfl
    have g2 := hfld 2 f2 rfl
    rw [o0, t0, intCells] at g0
    rw [o1, t1, sliceCells] at g1
    rw [o2, t2, arcsCells] at g2
    match xs, hxl with
    | [x0, x1, x2], _ =>
      obtain ⟨S, eS, _, wS⟩ := DataW.trod_int intT g0
      have e1 : ∃ a n cap, c1 = .slice a n cap := by
        rcases Go.Deep.open_slice Tryd.underlying22 g1 with ⟨hc, _⟩ | ⟨a, len, cap, m, n, D, Pl, hc, _⟩
        · simp [Value.cells] at hc; exact ⟨_, _, _, hc⟩
        · simp [Value.cells] at hc; exact ⟨_, _, _, hc⟩
      have e2 : ∃ a n cap, c2 = .slice a n cap := by
        rcases Go.Deep.open_slice Tryd.underlying23 g2 with ⟨hc, _⟩ | ⟨a, len, cap, m, n, D, Pl, hc, _⟩
        · simp [Value.cells] at hc; exact ⟨_, _, _, hc⟩
        · simp [Value.cells] at hc; exact ⟨_, _, _, hc⟩
      obtain ⟨fo, n, fc, f, rfl, hn, hF, hI⟩ := open_numbers e1 (by simpa [Value.cells] using g1)
      obtain ⟨ao, m, ac, g, rfl, hm, hG, hA⟩ := open_arcs e2 (by simpa [Value.cells] using g2)
      simp [Value.cells] at eS
      subst eS
      exact ⟨S, fo, n, fc, f, ao, m, ac, g, rfl, fitWf wS, hn, hm, hF, hI, hG, hA⟩
end Go.Proofs.YtihlfphokgicbaaDoor
