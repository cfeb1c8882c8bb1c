/-
  QuadKeeps walked.
-/
import Derived.Test.YtjolkhiggcmoiaaGreatDoorQRising
import Derived.OwnWalk
namespace Go.Proofs.YtjolkhiggcmoiaaGreatDoor
open Go.RowKit Go.Shelf
set_option linter.unusedVariables false
set_option linter.unusedSimpArgs false
theorem Mx.side {w : World} {B side : Nat} {F : Nat → Prop} {M : Nat → Nat → Bool} (h : Mx w B F side M) : Calls Tryz.prog 21 #[.pointer (some ⟨B, 0, none⟩)] w fun e w' => e = .returned (.int .i64 (side : Nat)) ∧ w = w' := by
  obtain ⟨lv, root, nv, lvv, ns, A, ps, hq, hl, rfl⟩ := h
  exact qside_any hq
/-- A matrix lies in blocks of cells. -/
theorem Mx.cells {w : World} {B side : Nat} {F : Nat → Prop} {M : Nat → Nat → Bool} (h : Mx w B F side M) {k : Nat} (hk : F k) {o : Obj} (ho : w.heap[k]? = some o) : o.isCells = true := by
  obtain ⟨lv, root, nv, lvv, ns, A, ps, hq, hl, rfl⟩ := h
  have row : ∀ {b e s n : Nat} {v : Value} {xs : List Value}, w.ownsRow b e s v n xs → v.ownBlock = some k → o.isCells = true := fun {b e s n v xs} hr e' => by
    rcases hr.2 with ⟨rfl, _⟩ | ⟨g', cap, cur, rfl, _, hg, _⟩
    · cases e'
    · have : g' = k := Option.some.inj e'
      subst this
      rw [ho] at hg
      cases hg
      rfl
  rcases hk with rfl | e | e
  · have := hq.box; unfold Bk at this; rw [ho] at this; cases this; rfl
  · exact row hq.nodes e
  · exact row hq.leaves e
theorem cellsK_le (M : Nat → Nat → Bool) (side : Nat) : ∀ k, (cellsK M side k).length ≤ k * side
  | 0 => by simp [cellsK]
  | k + 1 => by
    rw [cellsK_succ, List.length_append, List.length_map, Nat.succ_mul]
    have h1 := cellsK_le M side k
    have h2 : (colsM M side k).length ≤ side := by unfold colsM; have := List.length_filter_le (fun c => M k c) (List.range side); simpa using this
    omega
theorem colsM_le (M : Nat → Nat → Bool) (side k : Nat) : (colsM M side k).length ≤ side := by unfold colsM; have := List.length_filter_le (fun c => M k c) (List.range side); simpa using this
/-- The cells of a list of places put one by one. -/
theorem put_cells {L : List (Nat × Nat)} {a b : Nat} : putL (fun k => (L.getD k (0, 0)).1) (fun k => (L.getD k (0, 0)).2) L.length a b = true ↔ (a, b) ∈ L := by
  rw [putL_iff]
  constructor
  · rintro ⟨q, hq, h1, h2⟩
    rw [List.getD_eq_getElem?_getD, List.getElem?_eq_getElem hq] at h1 h2
    simp only [Option.getD_some] at h1 h2
    rw [h1, h2]
    exact List.getElem_mem hq
  · intro h
    obtain ⟨q, hq, e⟩ := List.getElem_of_mem h
    refine ⟨q, hq, ?_, ?_⟩ <;> rw [List.getD_eq_getElem?_getD, List.getElem?_eq_getElem hq, Option.getD_some, e]
theorem cls_own {w : World} {base n cap : Nat} {ao : Option Addr} {L : List (Nat × Nat)} (h : w.ownsRow base 71 2 (.slice ao n cap) n (ccells L)) (hn : n = L.length) : Cls w ao n (fun k => ((L.getD k (0, 0)).1 : Nat)) (fun k => ((L.getD k (0, 0)).2 : Nat)) := fun h0 => by
  obtain ⟨g, c2, hsv, _⟩ := h.form h0
  cases hsv
  refine ⟨g, 0, rfl, (h.lt g rfl).2, fun k hk => ?_⟩
  have hk2 : k < L.length := by omega
  have hc := ccells_at (List.getElem?_eq_getElem hk2)
  have e : L.getD k (0, 0) = L[k] := by rw [List.getD_eq_getElem?_getD, List.getElem?_eq_getElem hk2]; rfl
  dsimp only
  rw [e]
  have h1 := h.cellAt (k * 2) (by omega)
  have h2 := h.cellAt (k * 2 + 1) (by omega)
  rw [Nat.zero_add]
  exact ⟨h1.trans hc.1, h2.trans hc.2⟩
section
set_option maxHeartbeats 8000000
set_option maxRecDepth 100000
end
end Go.Proofs.YtjolkhiggcmoiaaGreatDoor
