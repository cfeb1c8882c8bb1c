/-
  A symbol, a list of numbers as arguments.
-/
import Derived.Test.YtihlfphokgicbaaDoorAutoArg
namespace Go.Proofs.YtihlfphokgicbaaDoor
open Go.ChangeMaps Go.ChangeShapes Go.WideShapes Go.ChangeAt Go.RowKit Go.Deep
set_option linter.unusedVariables false
set_option linter.unusedSimpArgs false
set_option maxRecDepth 100000 in
theorem open_sym {H : Type} {enc : TypeId × Value → H} {w : World} {base : Nat} {r : Reach} {b0 : Nat} {v : Value} {d : DataW H} {ps : List MemPlace} (hv : Value.okWide Tryd.prog w r b0 38 v)
    (h : DataW.Trod enc Tryd.prog w base (fun _ => true) true 38 v d ps) : ∃ (b : Bool) (n : Int), v = .agg #[.bool b, .int .i64 n] ∧ Fit n := by
  obtain ⟨s0, s1, hs, u0, u1, p0, p1⟩ := symFields
  obtain ⟨cs, rfl, hsz⟩ := okWide_struct hs hv
  rw [symCells] at hsz
  obtain ⟨fuel, hf⟩ := h
  match cs, hsz with
  | ⟨[c0, c1]⟩, _ =>
    obtain ⟨xs, n', hn', hD, _, hxl, hfld⟩ := DataW.trod_struct hs hf
    have q0 := hfld 0 s0 rfl
    have q1 := hfld 1 s1 rfl
    rw [p0, u0, boolCells] at q0
    rw [p1, u1, intCells] at q1
    match xs, hxl with
    | [y0, y1], _ =>
      obtain ⟨b, eb, _⟩ := DataW.trod_bool boolT q0
      obtain ⟨y, ey, _, wy⟩ := DataW.trod_int intT q1
      simp [Value.cells] at eb ey
      subst eb ey
      exact ⟨b, y, rfl, fitWf wy⟩
set_option maxRecDepth 100000 in
theorem open_numbers_top {H : Type} {enc : TypeId × Value → H} {w : World} {base : Nat} {r : Reach} {b0 : Nat} {v : Value} {d : DataW H} {ps : List MemPlace} (hv : Value.okWide Tryd.prog w r b0 22 v)
    (h : DataW.Trod enc Tryd.prog w base (fun _ => true) true 22 v d ps) : ∃ ao n cap f, v = .slice ao n cap ∧ n ≤ maxLen ∧ (∀ k, k < n → Fit (f k)) ∧ Ints w ao n f := by
  obtain ⟨a0, len0, cap0, rfl⟩ := okWide_slice Tryd.underlying22 hv
  obtain ⟨fuel, hf⟩ := h
  exact open_numbers ⟨_, _, _, rfl⟩ (by simpa [Value.cells] using hf)
end Go.Proofs.YtihlfphokgicbaaDoor
