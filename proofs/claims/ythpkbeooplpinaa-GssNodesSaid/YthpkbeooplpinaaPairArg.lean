/-
  A list of pairs as an argument.
-/
import Derived.Test.YthpkbeooplpinaaNodesLaw
import Derived.Test.YthpkbeooplpinaaPost
import Derived.Deep.Slices
import Derived.Deep.Fields
import Derived.ChangeMaps5
namespace Go.Proofs.Ythpkbeooplpinaa
open Go.ChangeMaps Go.ChangeShapes Go.WideShapes Go.ChangeAt Go.RowKit Go.Deep
set_option linter.unusedVariables false
set_option linter.unusedSimpArgs false
def intOf' : Value → Int
  | .int _ n => n
  | _ => 0
theorem intType : Try.prog.underlying 3 = some (.int .i64) := by kernel_rfl
theorem fit_wf {a : Int} (h : (Lit.int .i64 a).wf = true) : Fit a := by
  have := bounds_i64 h
  unfold Fit; omega
theorem add_none' (b off j : Nat) : (⟨b, off, none⟩ : Addr).add j = ⟨b, off + j, none⟩ := by simp [Addr.add]
theorem open_pairs {H : Type} {enc : TypeId × Value → H} {w : World} {base : Nat} {r : Reach} {b0 : Nat} {v : Value} {d : DataW H} {ps : List MemPlace} (hv : Value.okWide Try.prog w r b0 69 v)
    (h : DataW.Trod enc Try.prog w base (fun _ => true) true 69 v d ps) : ∃ ao n cap f, v = .slice ao n cap ∧ n ≤ cap ∧ cap ≤ maxLen ∧ (∀ k, k < n → Fit (f k).1 ∧ Fit (f k).2) ∧ Prs w ao n f := by
  obtain ⟨a0, len0, cap0, rfl⟩ := okWide_slice Try.underlying69 hv
  obtain ⟨fuel, hf⟩ := h
  rcases Go.Deep.open_slice Try.underlying69 hf with ⟨hc, _⟩ | ⟨a, len, cap, m, n, D, Pl, hc, hb, hl, hm, hmm, hx, hi⟩
  · simp only [Value.cells, List.cons.injEq, Value.slice.injEq, and_true] at hc
    obtain ⟨rfl, rfl, rfl⟩ := hc
    exact ⟨none, 0, 0, fun _ => (0, 0), rfl, Nat.le_refl _, by unfold maxLen; omega, fun k h => absurd h (Nat.not_lt_zero _), fun h => absurd h (Nat.lt_irrefl _)⟩
  · simp only [Value.cells, List.cons.injEq, Value.slice.injEq, and_true] at hc
    obtain ⟨rfl, rfl, rfl⟩ := hc
    rw [cells_arr2] at hi
    have hlm : len0 ≤ m := by rw [hmm]; split <;> omega
    have hi' : ∀ i, i < m → ∃ x y : Int, w.cell? (a.add (i * 2)) = some (.int .i64 x) ∧ w.cell? (a.add (i * 2 + 1)) = some (.int .i64 y) ∧ Fit x ∧ Fit y := by
      intro i him
      obtain ⟨cs', h1, h2⟩ := hi i him
      obtain ⟨_, hlen, hcell⟩ := World.cells?_some h1
      match cs', hlen with
      | [c0, c1], _ =>
        obtain ⟨xs, n', hn', hD, _, hxl, hfld⟩ := DataW.trod_array Try.underlying70 h2
        have g0 := hfld 0 (by omega)
        have g1 := hfld 1 (by omega)
        rw [cells_int] at g0 g1
        match xs, hxl with
        | [x0, x1], _ =>
          obtain ⟨x, ex, _, wx⟩ := DataW.trod_int intType g0
          obtain ⟨y, ey, _, wy⟩ := DataW.trod_int intType g1
          simp at ex ey
          have k0 := hcell 0 (by omega)
          have k1 := hcell 1 (by omega)
          rw [Go.Deep.add_add] at k0 k1
          exact ⟨x, y, by rw [Nat.add_zero] at k0; rw [k0, ex]; rfl, by rw [k1, ey]; rfl, fit_wf wx, fit_wf wy⟩
    refine ⟨some a, len0, cap0, fun i => (intOf' ((w.cell? (a.add (i * 2))).getD undef), intOf' ((w.cell? (a.add (i * 2 + 1))).getD undef)), rfl, hl, hm, fun k hk => ?_, fun h0 => ?_⟩
    · obtain ⟨x, y, e0, e1, wx, wy⟩ := hi' k (by omega)
      dsimp only
      rw [e0, e1]
      exact ⟨wx, wy⟩
    · obtain ⟨b, off, spot⟩ := a
      have hsp : spot = none := by
        obtain ⟨x, y, e0, _⟩ := hi' 0 (by omega)
        cases spot with
        | none => rfl
        | some x =>
          simp only [Nat.zero_mul, Addr.add, if_true, World.cell?] at e0
          split at e0 <;> simp at e0
      subst hsp
      refine ⟨b, off, rfl, ?_, fun k hk => ?_⟩
      · obtain ⟨x, y, e0, _⟩ := hi' 0 (by omega)
        rw [add_none'] at e0
        exact World.block_lt_of_cell? w _ e0
      · obtain ⟨x, y, e0, e1, _⟩ := hi' k (by omega)
        dsimp only
        rw [e0, e1]
        rw [add_none'] at e0 e1
        exact ⟨e0, by rw [Nat.add_assoc]; exact e1⟩
end Go.Proofs.Ythpkbeooplpinaa
