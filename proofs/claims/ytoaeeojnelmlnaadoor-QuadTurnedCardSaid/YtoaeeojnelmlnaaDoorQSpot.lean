/-
  A leaf with its place, as a value.
-/
import Derived.Test.YtoaeeojnelmlnaaDoorQPutX
namespace Go.Proofs.YtoaeeojnelmlnaaDoor
open Go.RowKit
set_option linter.unusedVariables false
set_option linter.unusedSimpArgs false
theorem fold_cells (off : Nat) (X cs : Array Value) : (X.zipIdx.foldl (fun cs (x : Value × Nat) => cs.setIfInBounds (off + x.2) x.1) cs).size = cs.size ∧
    ∀ k : Nat, (X.zipIdx.foldl (fun cs (x : Value × Nat) => cs.setIfInBounds (off + x.2) x.1) cs)[k]? = if off ≤ k ∧ k < off + X.size ∧ k < cs.size then X[k - off]? else cs[k]? := by
  have := Great.foldl_set off X.toList 0 cs
  rw [← Array.foldl_toList, Array.toList_zipIdx]
  simpa using this
theorem fill_two (place : Nat → Option (Nat × Nat)) (cs X Y : Array Value) (n m : Nat) (hX : X.size = n) (hY : Y.size = m) (hc : cs.size = n + m) (h0 : place 0 = some (0, n)) (h1 : place 1 = some (n, m)) :
    Instr.fill place cs [(0, Value.agg X), (1, Value.agg Y)] = some (X ++ Y) := by
  have e1 : (Value.agg X).cells = X := rfl
  have e2 : (Value.agg Y).cells = Y := rfl
  obtain ⟨s1, g1⟩ := fold_cells 0 X cs
  obtain ⟨s2, g2⟩ := fold_cells n Y (X.zipIdx.foldl (fun cs (x : Value × Nat) => cs.setIfInBounds (0 + x.2) x.1) cs)
  unfold Instr.fill
  simp only [h0, e1, hX]
  rw [if_neg (by simp; omega)]
  unfold Instr.fill
  simp only [h1, e2, hY]
  rw [if_neg (by have := s1; simp at this ⊢; rw [this]; omega)]
  unfold Instr.fill
  congr 1
  apply Array.ext_getElem?
  intro k
  have g2' := g2 k
  have g1' := g1 k
  rw [g2', g1', s1]
  rw [Array.getElem?_append]
  by_cases hk : k < n
  · rw [if_neg (by omega), if_pos (by omega), if_pos (by omega)]; simp
  · rw [if_neg (show ¬ k < X.size by omega)]
    by_cases hk2 : k < n + m
    · rw [if_pos (by omega), hX]
    · rw [if_neg (by omega), if_neg (by omega), Array.getElem?_eq_none (by omega), Array.getElem?_eq_none (by omega)]
/-- The cells of a leaf with its place. -/
def spt (i j : Nat) (f : Nat → Nat) : Array Value := #[.int .i64 (i : Nat), .int .i64 (j : Nat)] ++ Rw f
theorem spt_size (i j : Nat) (f : Nat → Nat) : (spt i j f).size = 66 := by simp [spt, Rw_size]
theorem spt_one (i j : Nat) (f : Nat → Nat) : (spt i j f).all (·.oneCell') = true := by
  rw [Array.all_eq_true_iff_forall_mem]
  intro v hv
  rcases Array.mem_append.1 hv with hv | hv
  · simp at hv; rcases hv with rfl | rfl <;> rfl
  · exact (Array.all_eq_true_iff_forall_mem.1 (Rw_one f)) v hv
theorem spot_places : (match Tryd.prog.info? 99, Tryd.prog.underlying 99 with
  | some it, some (.struct fields) => (match it.zero, fields.toList.mapM (fun f => (Tryd.prog.info? f.type).map fun i => (f.offset, i.size)) with
      | some z, some places => some (z.cells.size, places) | _, _ => none)
  | _, _ => none) = some (66, [(0, 2), (2, 64)]) := by kernel_rfl
theorem spot_built (i j : Nat) (f : Nat → Nat) : Tryd.prog.built 99 [(0, .agg #[.int .i64 (i : Nat), .int .i64 (j : Nat)]), (1, .agg (Rw f))] = some (spt i j f) := by
  have h := spot_places
  unfold Program.built
  cases h1 : Tryd.prog.info? 99 with
  | none => rw [h1] at h; cases h
  | some it =>
    rw [h1] at h
    cases h2 : Tryd.prog.underlying 99 with
    | none => rw [h2] at h; cases h
    | some d =>
      rw [h2] at h
      cases d with
      | struct fields =>
        simp only at h ⊢
        cases h3 : it.zero with
        | none => rw [h3] at h; cases h
        | some z =>
          rw [h3] at h
          cases h4 : fields.toList.mapM (fun f => (Tryd.prog.info? f.type).map fun i => (f.offset, i.size)) with
          | none => rw [h4] at h; cases h
          | some places =>
            rw [h4] at h
            simp only [Option.some.injEq, Prod.mk.injEq] at h ⊢
            obtain ⟨hs, rfl⟩ := h
            exact fill_two _ _ _ _ 2 64 rfl (Rw_size f) hs rfl rfl
      | _ => cases h
end Go.Proofs.YtoaeeojnelmlnaaDoor
