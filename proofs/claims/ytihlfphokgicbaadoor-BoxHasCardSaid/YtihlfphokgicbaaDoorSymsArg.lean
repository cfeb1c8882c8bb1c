/-
  A symbol, a list of numbers as arguments.
-/
import Derived.Test.YtihlfphokgicbaaDoorAutoArg
import Derived.Test.YtihlfphokgicbaaDoorHasWord
namespace Go.Proofs.YtihlfphokgicbaaDoor
open Go.ChangeMaps Go.ChangeShapes Go.WideShapes Go.ChangeAt Go.RowKit Go.Deep
set_option linter.unusedVariables false
set_option linter.unusedSimpArgs false
set_option maxRecDepth 100000 in
theorem open_sym {H : Type} {enc : TypeId × Value → H} {w : World} {base : Nat} {r : Reach} {b0 : Nat} {v : Value} {d : DataW H} {ps : List MemPlace} (hv : Value.okWide Tryd.prog w r b0 38 v)
    (h : DataW.Trod enc Tryd.prog w base (fun _ => true) true 38 v d ps) : ∃ (b : Bool) (n : Int), v = .agg #[.bool b, .int .i64 n] ∧ Fit n := by
  obtain ⟨s0, s1, hs, u0, u1, p0, p1⟩ := symFields
  obtain ⟨cs, rfl, hsz⟩ := okWide_struct hs hv
  rw [symCells] at hsz
  obtain ⟨fuel, hf⟩ := h
  match cs, hsz with
  | ⟨[c0, c1]⟩, _ =>
    obtain ⟨xs, n', hn', hD, _, hxl, hfld⟩ := DataW.trod_struct hs hf
    have q0 := hfld 0 s0 rfl
    have q1 := hfld 1 s1 rfl
    rw [p0, u0, boolCells] at q0
    rw [p1, u1, intCells] at q1
    match xs, hxl with
    | [y0, y1], _ =>
      obtain ⟨b, eb, _⟩ := DataW.trod_bool boolT q0
      obtain ⟨y, ey, _, wy⟩ := DataW.trod_int intT q1
      simp [Value.cells] at eb ey
      subst eb ey
      exact ⟨b, y, rfl, fitWf wy⟩
set_option maxRecDepth 100000 in
theorem open_numbers_top {H : Type} {enc : TypeId × Value → H} {w : World} {base : Nat} {r : Reach} {b0 : Nat} {v : Value} {d : DataW H} {ps : List MemPlace} (hv : Value.okWide Tryd.prog w r b0 22 v)
    (h : DataW.Trod enc Tryd.prog w base (fun _ => true) true 22 v d ps) : ∃ ao n cap f, v = .slice ao n cap ∧ n ≤ maxLen ∧ (∀ k, k < n → Fit (f k)) ∧ Ints w ao n f := by
  obtain ⟨a0, len0, cap0, rfl⟩ := okWide_slice Tryd.underlying22 hv
  obtain ⟨fuel, hf⟩ := h
  exact open_numbers ⟨_, _, _, rfl⟩ (by simpa [Value.cells] using hf)
set_option maxRecDepth 100000 in
theorem open_syms {H : Type} {enc : TypeId × Value → H} {w : World} {base : Nat} {r : Reach} {b0 : Nat} {v : Value} {d : DataW H} {ps : List MemPlace} (hv : Value.okWide Tryd.prog w r b0 31 v)
    (h : DataW.Trod enc Tryd.prog w base (fun _ => true) true 31 v d ps) : ∃ ao n cap g, v = .slice ao n cap ∧ n ≤ maxLen ∧ (∀ k, k < n → Fit (g k).2) ∧ Syms w ao n g := by
  obtain ⟨a0, len0, cap0, rfl⟩ := okWide_slice Tryd.underlying31 hv
  obtain ⟨s0, s1, hs, u0, u1, p0, p1⟩ := symFields
  obtain ⟨fuel, hf⟩ := h
  rcases Go.Deep.open_slice Tryd.underlying31 hf with ⟨hc, _⟩ | ⟨a, len, cap, m, n, D, Pl, hc, hb, hl, hm, hmm, hx, hi⟩
  · simp only [Value.cells, List.cons.injEq, Value.slice.injEq, and_true] at hc
    obtain ⟨rfl, rfl, rfl⟩ := hc
    exact ⟨none, 0, 0, fun _ => (false, 0), rfl, by unfold maxLen; omega, fun k h => absurd h (Nat.not_lt_zero _), fun h => absurd h (Nat.lt_irrefl _)⟩
  · simp only [Value.cells, List.cons.injEq, Value.slice.injEq, and_true] at hc
    obtain ⟨rfl, rfl, rfl⟩ := hc
    rw [symCells] at hi
    have hlm : len0 ≤ m := by rw [hmm]; split <;> omega
    have hi' : ∀ i, i < m → ∃ (b : Bool) (y : Int), w.cell? (a.add (i * 2)) = some (.bool b) ∧ w.cell? (a.add (i * 2 + 1)) = some (.int .i64 y) ∧ Fit y := by
      intro i him
      obtain ⟨cs', h1, h2⟩ := hi i him
      obtain ⟨_, hlen, hcell⟩ := World.cells?_some h1
      match cs', hlen with
      | [c0, c1], _ =>
        obtain ⟨xs, n', hn', hD, _, hxl, hfld⟩ := DataW.trod_struct hs h2
        have q0 := hfld 0 s0 rfl
        have q1 := hfld 1 s1 rfl
        rw [p0, u0, boolCells] at q0
        rw [p1, u1, intCells] at q1
        match xs, hxl with
        | [x0, x1], _ =>
          obtain ⟨b, eb, _⟩ := DataW.trod_bool boolT q0
          obtain ⟨y, ey, _, wy⟩ := DataW.trod_int intT q1
          simp at eb ey
          have k0 := hcell 0 (by omega)
          have k1 := hcell 1 (by omega)
          rw [Go.Deep.add_add] at k0 k1
          exact ⟨b, y, by rw [Nat.add_zero] at k0; rw [k0, eb]; rfl, by rw [k1, ey]; rfl, fitWf wy⟩
    refine ⟨some a, len0, cap0, fun i => (bitOf ((w.cell? (a.add (i * 2))).getD undef), numOf ((w.cell? (a.add (i * 2 + 1))).getD undef)), rfl, by omega, fun k hk => ?_, fun h0 => ?_⟩
    · obtain ⟨b, y, e0, e1, wy⟩ := hi' k (by omega)
      dsimp only
      rw [e1]
      exact wy
    · obtain ⟨b, off, spot⟩ := a
      have hsp : spot = none := by
        obtain ⟨x, y, e0, _⟩ := hi' 0 (by omega)
        cases spot with
        | none => rfl
        | some x =>
          simp only [Nat.zero_mul, Addr.add, if_true, World.cell?] at e0
          split at e0 <;> simp at e0
      subst hsp
      refine ⟨b, off, rfl, ?_, fun k hk => ?_⟩
      · obtain ⟨x, y, e0, _⟩ := hi' 0 (by omega)
        rw [addNone] at e0
        exact World.block_lt_of_cell? w _ e0
      · obtain ⟨x, y, e0, e1, _⟩ := hi' k (by omega)
        dsimp only
        rw [e0, e1]
        rw [addNone] at e0 e1
        exact ⟨e0, by rw [Nat.add_assoc]; exact e1⟩
end Go.Proofs.YtihlfphokgicbaaDoor
