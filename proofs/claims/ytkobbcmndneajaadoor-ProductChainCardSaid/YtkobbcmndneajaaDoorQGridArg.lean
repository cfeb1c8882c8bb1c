/-
  Structs of numbers and lists of cells as arguments.
-/
import Derived.Test.YtkobbcmndneajaaDoorQLaws
import Derived.Deep.Slices
import Derived.Deep.Fields
import Derived.ChangeMaps5
namespace Go.Proofs.YtkobbcmndneajaaDoor
open Go.ChangeMaps Go.ChangeShapes Go.WideShapes Go.ChangeAt Go.RowKit
set_option linter.unusedVariables false
set_option linter.unusedSimpArgs false
set_option maxRecDepth 100000
theorem cellsC : Tryd.prog.cellsOf 26 = 1 := by kernel_rfl
theorem open_cls_in {H : Type} {enc : TypeId × Value → H} {w : World} {base : Nat} {fuel : Nat} {x : DataW H × List MemPlace} {c : Value} (hf : DataW.trod enc Tryd.prog w base (fun _ => true) true fuel 26 [c] = some x) : ∃ ao n cap R C, c = .slice ao n cap ∧ n ≤ cap ∧ n ≤ 9223372036854775807 ∧ Cls w ao n R C := by
  obtain ⟨f0, f1, hs, o0, o1, t0, t1⟩ := cellFields
  rcases Go.Deep.open_slice_pairs cellType hs foldCell o0 o1 (by rw [t0]; exact intCells) (by rw [t1]; exact intCells) hf with ⟨hc, _⟩ | ⟨a, len0, cap0, m, n, V0, V1, D0, D1, P0, P1, hc, hb, hl, hm, hmm, _, hi⟩
  · simp only [List.cons.injEq, and_true] at hc
    exact ⟨none, 0, 0, fun _ => 0, fun _ => 0, hc, Nat.le_refl _, by omega, fun h => absurd h (Nat.lt_irrefl _)⟩
  · simp only [List.cons.injEq, and_true] at hc
    have hmax : cap0 ≤ 9223372036854775807 := by unfold maxLen at hm; omega
    simp only [if_true] at hmm
    by_cases h0 : len0 = 0
    · rw [h0] at hc
      exact ⟨some a, 0, cap0, fun _ => 0, fun _ => 0, hc, Nat.zero_le _, by omega, fun h => absurd h (Nat.lt_irrefl _)⟩
    · obtain ⟨b, off, spot⟩ := a
      have hsp : spot = none := by
        have := (hi 0 (by omega)).1
        cases spot with
        | none => rfl
        | some x =>
          simp only [Nat.zero_mul, Addr.add, if_true, World.cell?] at this
          split at this <;> simp at this
      subst hsp
      have hlt : b < w.heap.size := by
        have := block_lt_of_cell (hi 0 (by omega)).1
        rw [add_none] at this
        exact this
      refine ⟨_, len0, cap0, fun k => intOf (V0 k), fun k => intOf (V1 k), hc, by omega, by omega, fun _ => ⟨b, off, rfl, hlt, fun k hk => ?_⟩⟩
      obtain ⟨c0, c1, g0, g1⟩ := hi k (by omega)
      rw [t0] at g0
      rw [t1] at g1
      obtain ⟨x, ex, _⟩ := DataW.trod_int intType g0
      obtain ⟨y, ey, _⟩ := DataW.trod_int intType g1
      simp only [List.cons.injEq, and_true] at ex ey
      rw [add_none] at c0 c1
      rw [ex] at c0
      rw [ey] at c1
      show _ = some (Value.int .i64 (intOf (V0 k))) ∧ _ = some (Value.int .i64 (intOf (V1 k)))
      rw [ex, ey]
      exact ⟨c0, by rw [Nat.add_assoc]; exact c1⟩
theorem fields_bywaylaw03_Grid : ∃ f0 f1 : Field, Tryd.prog.underlying 49 = some (.struct #[f0, f1]) ∧ f0.type = 3 ∧ f1.type = 26 ∧ f0.offset = 0 ∧ f1.offset = 1 := ⟨_, _, Tryd.underlying49, rfl, rfl, rfl, rfl⟩
theorem cells_bywaylaw03_Grid : Tryd.prog.cellsOf 49 = 2 := by kernel_rfl
theorem open_bywaylaw03_Grid {H : Type} {enc : TypeId × Value → H} {w : World} {base : Nat} {r : Reach} {b0 : Nat} {v : Value} {d : DataW H} {ps : List MemPlace} (hv : Value.okWide Tryd.prog w r b0 49 v)
    (h : DataW.Trod enc Tryd.prog w base (fun _ => true) true 49 v d ps) : ∃ (x0 : Int) (ao1 : Option Addr) (n1 cap1 : Nat) (R1 C1 : Nat → Int), v = .agg #[.int .i64 x0, .slice ao1 n1 cap1] ∧ n1 ≤ cap1 ∧ n1 ≤ 9223372036854775807 ∧ Cls w ao1 n1 R1 C1 := by
  obtain ⟨f0, f1, hs, t0, t1, o0, o1⟩ := fields_bywaylaw03_Grid
  obtain ⟨cs, rfl, hsz⟩ := okWide_struct hs hv
  rw [cells_bywaylaw03_Grid] at hsz
  obtain ⟨fuel, hf⟩ := h
  match cs, hsz with
  | ⟨[c0, c1]⟩, _ =>
    obtain ⟨xs, n', hn', hD, _, hxl, hfld⟩ := DataW.trod_struct hs hf
    have g0 := hfld 0 f0 rfl
    rw [o0, t0, intCells] at g0
    have g1 := hfld 1 f1 rfl
    rw [o1, t1, cellsC] at g1
    match xs, hxl with
    | [y0, y1], _ =>
      obtain ⟨x0, e0, _, w0⟩ := DataW.trod_int intType g0
      simp [Value.cells] at e0
      subst e0
      obtain ⟨ao1, n1, cap1, R1, C1, e1, l1, m1, hc1⟩ := open_cls_in (c := c1) (by simpa [Value.cells] using g1)
      subst e1
      exact ⟨x0, ao1, n1, cap1, R1, C1, rfl, l1, m1, hc1⟩
theorem fields_bywaylaw04_Grid : ∃ f0 f1 : Field, Tryd.prog.underlying 65 = some (.struct #[f0, f1]) ∧ f0.type = 3 ∧ f1.type = 26 ∧ f0.offset = 0 ∧ f1.offset = 1 := ⟨_, _, Tryd.underlying65, rfl, rfl, rfl, rfl⟩
theorem cells_bywaylaw04_Grid : Tryd.prog.cellsOf 65 = 2 := by kernel_rfl
theorem open_bywaylaw04_Grid {H : Type} {enc : TypeId × Value → H} {w : World} {base : Nat} {r : Reach} {b0 : Nat} {v : Value} {d : DataW H} {ps : List MemPlace} (hv : Value.okWide Tryd.prog w r b0 65 v)
    (h : DataW.Trod enc Tryd.prog w base (fun _ => true) true 65 v d ps) : ∃ (x0 : Int) (ao1 : Option Addr) (n1 cap1 : Nat) (R1 C1 : Nat → Int), v = .agg #[.int .i64 x0, .slice ao1 n1 cap1] ∧ n1 ≤ cap1 ∧ n1 ≤ 9223372036854775807 ∧ Cls w ao1 n1 R1 C1 := by
  obtain ⟨f0, f1, hs, t0, t1, o0, o1⟩ := fields_bywaylaw04_Grid
  obtain ⟨cs, rfl, hsz⟩ := okWide_struct hs hv
  rw [cells_bywaylaw04_Grid] at hsz
  obtain ⟨fuel, hf⟩ := h
  match cs, hsz with
  | ⟨[c0, c1]⟩, _ =>
    obtain ⟨xs, n', hn', hD, _, hxl, hfld⟩ := DataW.trod_struct hs hf
    have g0 := hfld 0 f0 rfl
    rw [o0, t0, intCells] at g0
    have g1 := hfld 1 f1 rfl
    rw [o1, t1, cellsC] at g1
    match xs, hxl with
    | [y0, y1], _ =>
      obtain ⟨x0, e0, _, w0⟩ := DataW.trod_int intType g0
      simp [Value.cells] at e0
      subst e0
      obtain ⟨ao1, n1, cap1, R1, C1, e1, l1, m1, hc1⟩ := open_cls_in (c := c1) (by simpa [Value.cells] using g1)
      subst e1
      exact ⟨x0, ao1, n1, cap1, R1, C1, rfl, l1, m1, hc1⟩
theorem fields_bywaylaw04_Four : ∃ f0 f1 f2 f3 f4 f5 : Field, Tryd.prog.underlying 77 = some (.struct #[f0, f1, f2, f3, f4, f5]) ∧ f0.type = 3 ∧ f1.type = 3 ∧ f2.type = 26 ∧ f3.type = 26 ∧ f4.type = 26 ∧ f5.type = 26 ∧ f0.offset = 0 ∧ f1.offset = 1 ∧ f2.offset = 2 ∧ f3.offset = 3 ∧ f4.offset = 4 ∧ f5.offset = 5 := ⟨_, _, _, _, _, _, Tryd.underlying77, rfl, rfl, rfl, rfl, rfl, rfl, rfl, rfl, rfl, rfl, rfl, rfl⟩
theorem cells_bywaylaw04_Four : Tryd.prog.cellsOf 77 = 6 := by kernel_rfl
theorem open_bywaylaw04_Four {H : Type} {enc : TypeId × Value → H} {w : World} {base : Nat} {r : Reach} {b0 : Nat} {v : Value} {d : DataW H} {ps : List MemPlace} (hv : Value.okWide Tryd.prog w r b0 77 v)
    (h : DataW.Trod enc Tryd.prog w base (fun _ => true) true 77 v d ps) : ∃ (x0 : Int) (x1 : Int) (ao2 : Option Addr) (n2 cap2 : Nat) (R2 C2 : Nat → Int) (ao3 : Option Addr) (n3 cap3 : Nat) (R3 C3 : Nat → Int) (ao4 : Option Addr) (n4 cap4 : Nat) (R4 C4 : Nat → Int) (ao5 : Option Addr) (n5 cap5 : Nat) (R5 C5 : Nat → Int), v = .agg #[.int .i64 x0, .int .i64 x1, .slice ao2 n2 cap2, .slice ao3 n3 cap3, .slice ao4 n4 cap4, .slice ao5 n5 cap5] ∧ n2 ≤ cap2 ∧ n2 ≤ 9223372036854775807 ∧ Cls w ao2 n2 R2 C2 ∧ n3 ≤ cap3 ∧ n3 ≤ 9223372036854775807 ∧ Cls w ao3 n3 R3 C3 ∧ n4 ≤ cap4 ∧ n4 ≤ 9223372036854775807 ∧ Cls w ao4 n4 R4 C4 ∧ n5 ≤ cap5 ∧ n5 ≤ 9223372036854775807 ∧ Cls w ao5 n5 R5 C5 := by
  obtain ⟨f0, f1, f2, f3, f4, f5, hs, t0, t1, t2, t3, t4, t5, o0, o1, o2, o3, o4, o5⟩ := fields_bywaylaw04_Four
  obtain ⟨cs, rfl, hsz⟩ := okWide_struct hs hv
  rw [cells_bywaylaw04_Four] at hsz
  obtain ⟨fuel, hf⟩ := h
  match cs, hsz with
  | ⟨[c0, c1, c2, c3, c4, c5]⟩, _ =>
    obtain ⟨xs, n', hn', hD, _, hxl, hfld⟩ := DataW.trod_struct hs hf
    have g0 := hfld 0 f0 rfl
    rw [o0, t0, intCells] at g0
    have g1 := hfld 1 f1 rfl
    rw [o1, t1, intCells] at g1
    have g2 := hfld 2 f2 rfl
    rw [o2, t2, cellsC] at g2
    have g3 := hfld 3 f3 rfl
    rw [o3, t3, cellsC] at g3
    have g4 := hfld 4 f4 rfl
    rw [o4, t4, cellsC] at g4
    have g5 := hfld 5 f5 rfl
    rw [o5, t5, cellsC] at g5
    match xs, hxl with
    | [y0, y1, y2, y3, y4, y5], _ =>
      obtain ⟨x0, e0, _, w0⟩ := DataW.trod_int intType g0
      simp [Value.cells] at e0
      subst e0
      obtain ⟨x1, e1, _, w1⟩ := DataW.trod_int intType g1
      simp [Value.cells] at e1
      subst e1
      obtain ⟨ao2, n2, cap2, R2, C2, e2, l2, m2, hc2⟩ := open_cls_in (c := c2) (by simpa [Value.cells] using g2)
      subst e2
      obtain ⟨ao3, n3, cap3, R3, C3, e3, l3, m3, hc3⟩ := open_cls_in (c := c3) (by simpa [Value.cells] using g3)
      subst e3
      obtain ⟨ao4, n4, cap4, R4, C4, e4, l4, m4, hc4⟩ := open_cls_in (c := c4) (by simpa [Value.cells] using g4)
      subst e4
      obtain ⟨ao5, n5, cap5, R5, C5, e5, l5, m5, hc5⟩ := open_cls_in (c := c5) (by simpa [Value.cells] using g5)
      subst e5
      exact ⟨x0, x1, ao2, n2, cap2, R2, C2, ao3, n3, cap3, R3, C3, ao4, n4, cap4, R4, C4, ao5, n5, cap5, R5, C5, rfl, l2, m2, hc2, l3, m3, hc3, l4, m4, hc4, l5, m5, hc5⟩
end Go.Proofs.YtkobbcmndneajaaDoor
