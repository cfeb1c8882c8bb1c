/-
  CompactFunc: walked.
-/
import Derived.Test.YtjkfieilaahejaaCompactP
namespace Go.Proofs.Ytjkfieilaahejaa
open Go.RowKit
set_option linter.unusedVariables false
set_option linter.unusedSimpArgs false
theorem prod_at {w : World} {B g n cap : Nat} {R : List Tr} {m : Nat} {t : Tr} (h : OwnP w B (.slice (some ⟨g, 0, none⟩) n cap) R) (hm : R[m]? = some t) : w.cell? ⟨g, m * 2, none⟩ = some (.int .i64 t.1) ∧ w.cell? ⟨g, m * 2 + 1, none⟩ = some t.2.1 ∧ Body w t.2.1 t.2.2 ∧ g < w.heap.size := by
  obtain ⟨b, off, c, he, hbl, c0, c1, hbd⟩ := h.prods.prod hm
  rcases h.1.2 with ⟨e, _⟩ | ⟨g', cap', cur, e, _, hg, _⟩
  · cases e
  · cases e
    cases he
    rw [Nat.zero_add] at c0 c1
    exact ⟨c0, c1, hbd, hbl⟩
theorem frozen_at {w : World} {B g n cap : Nat} {R : List Tr} (h : OwnP w B (.slice (some ⟨g, 0, none⟩) n cap) R) (j : Nat) : w.frozen? ⟨g, j, none⟩ = false := by
  rcases h.1.2 with ⟨e, _⟩ | ⟨g', cap', cur, e, _, hg, _⟩
  · cases e
  · cases e
    exact frozen_of_row w g j cur _ hg
theorem drop_at {D T : List Tr} {i m : Nat} (hD : D.length = i) (hm : i ≤ m) : (D ++ T.drop i)[m]? = T[m]? := by
  rw [List.getElem?_append_right (by omega), hD, List.getElem?_drop, show i + (m - i) = m by omega]
/-- The row's first elements alone. -/
theorem own_cut {w : World} {B g cap i : Nat} {R : List Tr} (h : OwnP w B (.slice (some ⟨g, 0, none⟩) R.length cap) R) (hi : i < R.length) : OwnP w B (.slice (some ⟨g, 0, none⟩) i cap) (R.take i) := by
  refine ⟨?_, fun t ht => h.2 t (List.mem_of_mem_take ht)⟩
  rcases h.1.2 with ⟨e, _⟩ | ⟨g', cap', cur, e, hB, hg, hc1, hc2, hc3, htk⟩
  · cases e
  · cases e
    have hl : (R.take i).length = i := by rw [List.length_take]; omega
    rw [hl]
    refine ⟨by rw [tcells_len, hl], .inr ⟨g, cap, cur, rfl, hB, hg, by omega, hc2, hc3, ?_⟩⟩
    have h1 : tcells (R.take i) = (tcells R).take (i * 2) := by
      have e : R = R.take i ++ R.drop i := (List.take_append_drop i R).symm
      have e2 : tcells R = tcells (R.take i) ++ tcells (R.drop i) := by unfold tcells; rw [← List.flatMap_append, ← e]
      rw [e2, List.take_left' (by rw [tcells_len, hl])]
    rw [h1, ← htk, List.take_take, Nat.min_eq_left (by omega)]
theorem own_tail {w : World} {B g cap i : Nat} {R : List Tr} (h : OwnP w B (.slice (some ⟨g, 0, none⟩) i cap) R) (hl : R.length = i) {o : Nat} (ho : i * 2 ≤ o) (u : Value) : OwnP (w.setCell ⟨g, o, none⟩ u) B (.slice (some ⟨g, 0, none⟩) i cap) R := by
  have hf : Far (fun k => k = g) w (w.setCell ⟨g, o, none⟩ u) := (Far.refl (fun k => k = g) w).set _ _ fun _ => rfl
  refine ⟨?_, fun t ht => (h.2 t ht).far hf (fun k e => e ▸ (h.1.lt g rfl).1) fun hr k hk e => rows_ne h.1 hr prod_ne_sym (k := k) (by rw [e]; rfl) hk⟩
  rcases h.1.2 with ⟨e, _⟩ | ⟨g', cap', cur, e, hB, hg, hc1, hc2, hc3, htk⟩
  · cases e
  · cases e
    rw [hl]
    refine ⟨by rw [tcells_len, hl], .inr ⟨g, cap, _, rfl, hB, Bk.set hg o u, by omega, hc2, by simpa using hc3, ?_⟩⟩
    rw [← htk, Array.toList_setIfInBounds, List.take_set_of_le (by omega), hl]
theorem own_tails {B g cap i : Nat} {R : List Tr} : ∀ (vs : List Value) (o : Nat) {w : World}, OwnP w B (.slice (some ⟨g, 0, none⟩) i cap) R → R.length = i → i * 2 ≤ o → OwnP (w.setCells g o vs) B (.slice (some ⟨g, 0, none⟩) i cap) R
  | [], _, _, h, _, _ => h
  | v :: r, o, _, h, hl, ho => own_tails r (o + 1) (own_tail h hl ho v) hl (by omega)
theorem far_cells_set {g : Nat} : ∀ (vs : List Value) (o : Nat) (w : World), Far (fun k => k = g) w (w.setCells g o vs)
  | [], _, w => Far.refl _ w
  | v :: r, o, w => ((Far.refl (fun k => k = g) w).set ⟨g, o, none⟩ v fun _ => rfl).trans (far_cells_set r (o + 1) _) fun _ _ h => h
theorem zeroProd : (Try.prog.info? 44).bind (fun i => i.zero) = some (.agg #[.int .i64 0, .slice none 0 0]) := by kernel_rfl
/-- clear: the row's first elements stay. -/
theorem run_clear (w : World) (B g n cap i : Nat) (R : List Tr) (h : OwnP w B (.slice (some ⟨g, 0, none⟩) n cap) R) (hn : R.length = n) (hi : i < n) : ∃ w', (∀ ty, (Builtin.clear_ #[22] ty #[.slice (some ⟨g, i * 2, none⟩) (n - i) (cap - i)]).run Try.prog w = .ok (.tuple #[]) w') ∧ OwnP w' B (.slice (some ⟨g, 0, none⟩) i cap) (R.take i) ∧ Far (fun k => k = g) w w' := by
  subst hn
  obtain ⟨vs, hvs⟩ : ∃ vs, vs = (Builtin.zeroCells #[Value.int .i64 0, .slice none 0 0] (R.length - i)).toList := ⟨_, rfl⟩
  have hl : vs.length = (R.length - i) * 2 := by rw [hvs]; simp [Builtin.zeroCells]
  have h1 : ∀ v ∈ vs, v.oneCell' = true := by
    intro v hv
    rw [hvs] at hv
    simp only [Builtin.zeroCells, Array.toList_map, List.mem_map] at hv
    obtain ⟨j, _, rfl⟩ := hv
    have : j % 2 = 0 ∨ j % 2 = 1 := by omega
    rcases this with e | e <;> simp [e] <;> rfl
  have hv : (zeroValue 44).run Try.prog w = .ok (.agg #[.int .i64 0, .slice none 0 0]) w := by
    have := zeroProd
    cases hi' : Try.prog.info? 44 with
    | none => rw [hi'] at this; cases this
    | some inf =>
      rw [hi'] at this
      have hz : inf.zero = some (.agg #[.int .i64 0, .slice none 0 0]) := this
      simp [zeroValue, typeInfo, hi', hz]
  have hcell : ∀ j, j < vs.length → (w.cell? ⟨g, i * 2 + j, none⟩).isSome = true := fun j hj => by
    rw [hl] at hj
    have := Src.own h.1
    rcases h.1.2 with ⟨e, _⟩ | ⟨g', cap', cur, e, _, hg, hc1, hc2, hc3, _⟩
    · cases e
    · cases e
      rw [cell_of_row w g _ cur _ (0, 0) hg, Array.getElem?_eq_getElem (by omega)]
      rfl
  have hst := run_storeCells_cells (P := Try.prog) g (i * 2) vs 0 w (by simpa using hcell) (fun j hj => frozen_at h _) h1
  simp only [Nat.add_zero] at hst
  obtain ⟨m, hm⟩ : ∃ m, R.length - i = m + 1 := ⟨R.length - i - 1, by omega⟩
  refine ⟨w.setCells g (i * 2) vs, fun ty => ?_, ?_, ?_⟩
  · rw [hm] at hvs ⊢
    simp [Builtin.clear_, run_underlying Try.underlying22, hv, Value.cells, ← hvs, hst]
  · exact own_tails _ _ (own_cut h hi) (by rw [List.length_take]; omega) (Nat.le_refl _)
  · exact far_cells_set _ _ _
end Go.Proofs.Ytjkfieilaahejaa
