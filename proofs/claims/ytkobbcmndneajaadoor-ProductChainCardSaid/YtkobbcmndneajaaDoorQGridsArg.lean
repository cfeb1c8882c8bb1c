/-
  A list of structs of a number and a list of cells as an argument.
-/
import Derived.Test.YtkobbcmndneajaaDoorQGridArg
namespace Go.Proofs.YtkobbcmndneajaaDoor
open Go.ChangeMaps Go.ChangeShapes Go.WideShapes Go.ChangeAt Go.RowKit
set_option linter.unusedVariables false
set_option linter.unusedSimpArgs false
set_option maxRecDepth 100000
/-- A list of grids that lies in memory. -/
def Grids (w : World) (ao : Option Addr) (n : Nat) (s : Nat → Int) (a : Nat → Option Addr) (m c : Nat → Nat) (R C : Nat → Nat → Int) : Prop := 0 < n → ∃ g off, ao = some ⟨g, off, none⟩ ∧ g < w.heap.size ∧ ∀ k, k < n → w.cell? ⟨g, off + k * 2, none⟩ = some (.int .i64 (s k)) ∧ w.cell? ⟨g, off + k * 2 + 1, none⟩ = some (.slice (a k) (m k) (c k)) ∧ m k ≤ c k ∧ m k ≤ 9223372036854775807 ∧ Cls w (a k) (m k) (R k) (C k)
theorem Grids.move {w w' : World} {ao : Option Addr} {n : Nat} {s : Nat → Int} {a : Nat → Option Addr} {m c : Nat → Nat} {R C : Nat → Nat → Int} (h : Grids w ao n s a m c R C) (hf : Far (fun _ => False) w w') : Grids w' ao n s a m c R C := fun hn => by
  obtain ⟨g, off, e, hg, hc⟩ := h hn
  refine ⟨g, off, e, Nat.lt_of_lt_of_le hg hf.size, fun k hk => ?_⟩
  obtain ⟨h0, h1, h2, h3, h4⟩ := hc k hk
  exact ⟨(hf.cell hg).trans h0, (hf.cell hg).trans h1, h2, h3, h4.move hf⟩
theorem open_grids {H : Type} {enc : TypeId × Value → H} {w : World} {base : Nat} {r : Reach} {b0 : Nat} {v : Value} {d : DataW H} {ps : List MemPlace} (hv : Value.okWide Tryd.prog w r b0 58 v)
    (h : DataW.Trod enc Tryd.prog w base (fun _ => true) true 58 v d ps) : ∃ ao n cap s a m c R C, v = .slice ao n cap ∧ n ≤ cap ∧ n ≤ 9223372036854775807 ∧ Grids w ao n s a m c R C := by
  obtain ⟨a0, len0, cap0, rfl⟩ := okWide_slice Tryd.underlying58 hv
  obtain ⟨fuel, hf⟩ := h
  obtain ⟨f0, f1, hs, t0, t1, o0, o1⟩ := fields_bywaylaw03_Grid
  rcases Go.Deep.open_slice Tryd.underlying58 hf with ⟨hc, _⟩ | ⟨a, len, cap, m, n, D, Pl, hc, hb, hl, hm, hmm, hx, hi⟩
  · simp only [Value.cells, List.cons.injEq, Value.slice.injEq, and_true] at hc
    obtain ⟨rfl, rfl, rfl⟩ := hc
    exact ⟨none, 0, 0, fun _ => 0, fun _ => none, fun _ => 0, fun _ => 0, fun _ _ => 0, fun _ _ => 0, rfl, Nat.le_refl _, by omega, fun h => absurd h (Nat.lt_irrefl _)⟩
  · simp only [Value.cells, List.cons.injEq, Value.slice.injEq, and_true] at hc
    obtain ⟨rfl, rfl, rfl⟩ := hc
    rw [cells_bywaylaw03_Grid] at hi
    have hmax : cap0 ≤ 9223372036854775807 := by unfold maxLen at hm; omega
    have hlm : len0 ≤ m := by rw [hmm]; split <;> omega
    have hi' : ∀ i, ∃ t : Int × Option Addr × Nat × Nat × (Nat → Int) × (Nat → Int), i < len0 → w.cell? (a.add (i * 2)) = some (.int .i64 t.1) ∧ w.cell? (a.add (i * 2 + 1)) = some (.slice t.2.1 t.2.2.1 t.2.2.2.1) ∧ t.2.2.1 ≤ t.2.2.2.1 ∧ t.2.2.1 ≤ 9223372036854775807 ∧ Cls w t.2.1 t.2.2.1 t.2.2.2.2.1 t.2.2.2.2.2 := by
      intro i
      by_cases hil : i < len0
      · obtain ⟨cs', h1, h2⟩ := hi i (by omega)
        obtain ⟨_, hlen, hcell⟩ := World.cells?_some h1
        match cs', hlen with
        | [c0, c1], _ =>
          obtain ⟨xs, n', hn', hD, _, hxl, hfld⟩ := DataW.trod_struct hs h2
          have q0 := hfld 0 f0 rfl
          have q1 := hfld 1 f1 rfl
          rw [o0, t0, intCells] at q0
          rw [o1, t1, cellsC] at q1
          match xs, hxl with
          | [x0, x1], _ =>
            obtain ⟨y, ey, _, wy⟩ := DataW.trod_int intType q0
            simp at ey
            obtain ⟨ao1, n1, cap1, R1, C1, e1, l1, m1, hc1⟩ := open_cls_in (c := c1) (by simpa using q1)
            have k0 := hcell 0 (by omega)
            have k1 := hcell 1 (by omega)
            rw [Go.Deep.add_add] at k0 k1
            exact ⟨(y, ao1, n1, cap1, R1, C1), fun _ => ⟨by rw [Nat.add_zero] at k0; rw [k0, ey]; rfl, by rw [k1, e1]; rfl, l1, m1, hc1⟩⟩
      · exact ⟨(0, none, 0, 0, fun _ => 0, fun _ => 0), fun h => absurd h hil⟩
    obtain ⟨g, hg⟩ := Classical.axiomOfChoice hi'
    refine ⟨some a, len0, cap0, fun k => (g k).1, fun k => (g k).2.1, fun k => (g k).2.2.1, fun k => (g k).2.2.2.1, fun k => (g k).2.2.2.2.1, fun k => (g k).2.2.2.2.2, rfl, by omega, by omega, fun h0 => ?_⟩
    obtain ⟨b, off, spot⟩ := a
    have hsp : spot = none := by
      have := (hg 0 h0).1
      cases spot with
      | none => rfl
      | some x =>
        simp only [Nat.zero_mul, Addr.add, if_true, World.cell?] at this
        split at this <;> simp at this
    subst hsp
    have hlt : b < w.heap.size := by
      have := block_lt_of_cell (hg 0 h0).1
      rw [add_none] at this
      exact this
    refine ⟨b, off, rfl, hlt, fun k hk => ?_⟩
    obtain ⟨k0, k1, k2, k3, k4⟩ := hg k hk
    rw [add_none] at k0 k1
    exact ⟨k0, by rw [Nat.add_assoc]; exact k1, k2, k3, k4⟩
end Go.Proofs.YtkobbcmndneajaaDoor
