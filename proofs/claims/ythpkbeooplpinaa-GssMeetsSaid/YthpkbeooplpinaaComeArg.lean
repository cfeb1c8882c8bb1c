/-
  A list of things as an argument.
-/
import Derived.Test.YthpkbeooplpinaaMeetPre
import Derived.Test.YthpkbeooplpinaaPost
import Derived.Deep.Slices
import Derived.Deep.Fields
import Derived.ChangeMaps5
namespace Go.Proofs.Ythpkbeooplpinaa
open Go.ChangeMaps Go.ChangeShapes Go.WideShapes Go.ChangeAt Go.RowKit Go.Deep
set_option linter.unusedVariables false
set_option linter.unusedSimpArgs false
def FitC' (x : Cm) : Prop := Fit x.1 ∧ Fit x.2.1 ∧ Fit x.2.2.1
def numOf : Value → Int
  | .int _ n => n
  | _ => 0
def bitOf : Value → Bool
  | .bool b => b
  | _ => false
theorem intT : Try.prog.underlying 3 = some (.int .i64) := by kernel_rfl
theorem boolT : Try.prog.underlying 4 = some .bool := by kernel_rfl
theorem fitWf {a : Int} (h : (Lit.int .i64 a).wf = true) : Fit a := by
  have := bounds_i64 h
  unfold Fit; omega
theorem addNone (b off j : Nat) : (⟨b, off, none⟩ : Addr).add j = ⟨b, off + j, none⟩ := by simp [Addr.add]
theorem comeFields : ∃ f0 f1 f2 f3 : Field, Try.prog.underlying 61 = some (.struct #[f0, f1, f2, f3]) ∧ f0.type = 3 ∧ f1.type = 3 ∧ f2.type = 3 ∧ f3.type = 4 ∧ f0.offset = 0 ∧ f1.offset = 1 ∧ f2.offset = 2 ∧ f3.offset = 3 := by
  exact ⟨_, _, _, _, Try.underlying61, rfl, rfl, rfl, rfl, rfl, rfl, rfl, rfl⟩
theorem comeCells : Try.prog.cellsOf 61 = 4 := by kernel_rfl
theorem boolCells : Try.prog.cellsOf 4 = 1 := by kernel_rfl
theorem open_comes {H : Type} {enc : TypeId × Value → H} {w : World} {base : Nat} {r : Reach} {b0 : Nat} {v : Value} {d : DataW H} {ps : List MemPlace} (hv : Value.okWide Try.prog w r b0 58 v)
    (h : DataW.Trod enc Try.prog w base (fun _ => true) true 58 v d ps) : ∃ ao n cap f, v = .slice ao n cap ∧ n ≤ cap ∧ cap ≤ maxLen ∧ (∀ k, k < n → FitC' (f k)) ∧ Cms w (fun _ => False) ao n f := by
  obtain ⟨a0, len0, cap0, rfl⟩ := okWide_slice Try.underlying58 hv
  obtain ⟨fuel, hf⟩ := h
  obtain ⟨f0, f1, f2, f3, hs, t0, t1, t2, t3, o0, o1, o2, o3⟩ := comeFields
  rcases Go.Deep.open_slice Try.underlying58 hf with ⟨hc, _⟩ | ⟨a, len, cap, m, n, D, Pl, hc, hb, hl, hm, hmm, hx, hi⟩
  · simp only [Value.cells, List.cons.injEq, Value.slice.injEq, and_true] at hc
    obtain ⟨rfl, rfl, rfl⟩ := hc
    exact ⟨none, 0, 0, fun _ => (0, 0, 0, false), rfl, Nat.le_refl _, by unfold maxLen; omega, fun k h => absurd h (Nat.not_lt_zero _), fun h => absurd h (Nat.lt_irrefl _)⟩
  · simp only [Value.cells, List.cons.injEq, Value.slice.injEq, and_true] at hc
    obtain ⟨rfl, rfl, rfl⟩ := hc
    rw [comeCells] at hi
    have hlm : len0 ≤ m := by rw [hmm]; split <;> omega
    have hi' : ∀ i, i < m → ∃ (x y z : Int) (b : Bool), w.cell? (a.add (i * 4)) = some (.int .i64 x) ∧ w.cell? (a.add (i * 4 + 1)) = some (.int .i64 y) ∧ w.cell? (a.add (i * 4 + 2)) = some (.int .i64 z) ∧ w.cell? (a.add (i * 4 + 3)) = some (.bool b) ∧ Fit x ∧ Fit y ∧ Fit z := by
      intro i him
      obtain ⟨cs', h1, h2⟩ := hi i him
      obtain ⟨_, hlen, hcell⟩ := World.cells?_some h1
      match cs', hlen with
      | [c0, c1, c2, c3], _ =>
        obtain ⟨xs, n', hn', hD, _, hxl, hfld⟩ := DataW.trod_struct hs h2
        have g0 := hfld 0 f0 rfl
        have g1 := hfld 1 f1 rfl
        have g2 := hfld 2 f2 rfl
        have g3 := hfld 3 f3 rfl
        rw [o0, t0, cells_int] at g0
        rw [o1, t1, cells_int] at g1
        rw [o2, t2, cells_int] at g2
        rw [o3, t3, boolCells] at g3
        match xs, hxl with
        | [x0, x1, x2, x3], _ =>
          obtain ⟨x, ex, _, wx⟩ := DataW.trod_int intT g0
          obtain ⟨y, ey, _, wy⟩ := DataW.trod_int intT g1
          obtain ⟨z, ez, _, wz⟩ := DataW.trod_int intT g2
          obtain ⟨b, eb, _⟩ := DataW.trod_bool boolT g3
          simp at ex ey ez eb
          have k0 := hcell 0 (by omega)
          have k1 := hcell 1 (by omega)
          have k2 := hcell 2 (by omega)
          have k3 := hcell 3 (by omega)
          rw [Go.Deep.add_add] at k0 k1 k2 k3
          exact ⟨x, y, z, b, by rw [Nat.add_zero] at k0; rw [k0, ex]; rfl, by rw [k1, ey]; rfl, by rw [k2, ez]; rfl, by rw [k3, eb]; rfl, fitWf wx, fitWf wy, fitWf wz⟩
    refine ⟨some a, len0, cap0, fun i => (numOf ((w.cell? (a.add (i * 4))).getD undef), numOf ((w.cell? (a.add (i * 4 + 1))).getD undef), numOf ((w.cell? (a.add (i * 4 + 2))).getD undef), bitOf ((w.cell? (a.add (i * 4 + 3))).getD undef)), rfl, hl, hm, fun k hk => ?_, fun h0 => ?_⟩
    · obtain ⟨x, y, z, b, e0, e1, e2, e3, wx, wy, wz⟩ := hi' k (by omega)
      dsimp only
      rw [e0, e1, e2, e3]
      exact ⟨wx, wy, wz⟩
    · obtain ⟨b, off, spot⟩ := a
      have hsp : spot = none := by
        obtain ⟨x, y, z, b, e0, _⟩ := hi' 0 (by omega)
        cases spot with
        | none => rfl
        | some x =>
          simp only [Nat.zero_mul, Addr.add, if_true, World.cell?] at e0
          split at e0 <;> simp at e0
      subst hsp
      refine ⟨b, off, rfl, ?_, id, fun k hk => ?_⟩
      · obtain ⟨x, y, z, b, e0, _⟩ := hi' 0 (by omega)
        rw [addNone] at e0
        exact World.block_lt_of_cell? w _ e0
      · obtain ⟨x, y, z, b, e0, e1, e2, e3, _⟩ := hi' k (by omega)
        dsimp only
        rw [e0, e1, e2, e3]
        rw [addNone] at e0 e1 e2 e3
        exact ⟨e0, by rw [Nat.add_assoc]; exact e1, by rw [Nat.add_assoc]; exact e2, by rw [Nat.add_assoc]; exact e3⟩
end Go.Proofs.Ythpkbeooplpinaa
