/-
  A matrix as cells, with the blocks of memory that it takes up.
-/
import Derived.Test.YtoaeeojnelmlnaaDoorQGet
namespace Go.Proofs.YtoaeeojnelmlnaaDoor
open Go.RowKit
set_option linter.unusedVariables false
set_option linter.unusedSimpArgs false
/-- Each leaf has a cell. -/
def Full (M : Nat → Nat → Bool) (ps : List (Nat × Nat)) : Prop := ∀ p ∈ ps, ∃ r c, r < 64 ∧ c < 64 ∧ sub M p.1 p.2 r c = true
/-- The matrix at B, on blocks F, of a side, has the cells M. -/
def Mx (w : World) (B : Nat) (F : Nat → Prop) (side : Nat) (M : Nat → Nat → Bool) : Prop :=
  ∃ lv root nv lvv ns A ps, Qd w B side lv root nv lvv ns A ps M ∧ Full M ps ∧ F = Qf B nv lvv
/-- Memory moved within blocks F, to blocks F' that are of F or new. -/
structure Mv (w w' : World) (F F' : Nat → Prop) : Prop where
  far : Far F w w'
  more : ∀ k, F' k → F k ∨ w.heap.size ≤ k
theorem Mv.still {w w' : World} {F : Nat → Prop} (h : Far (fun _ => False) w w') : Mv w w' F F := ⟨h.mono fun _ _ h => h.elim, fun _ h => .inl h⟩
theorem Mv.trans {a b c : World} {F G H : Nat → Prop} (h : Mv a b F G) (k : Mv b c G H) : Mv a c F H :=
  ⟨h.far.trans k.far fun i hi hg => (h.more i hg).resolve_right (by omega), fun i hi => by
    rcases k.more i hi with hg | hg
    · exact h.more i hg
    · exact .inr (Nat.le_trans h.far.size hg)⟩
section
variable {w w' : World} {B side : Nat} {F : Nat → Prop} {M : Nat → Nat → Bool}
theorem Mx.lt (h : Mx w B F side M) : ∀ k, F k → k < w.heap.size := by
  obtain ⟨lv, root, nv, lvv, ns, A, ps, hq, _, rfl⟩ := h
  exact hq.lt
theorem Mx.kept {G : Nat → Prop} (h : Mx w B F side M) (hf : Far G w w') (hG : ∀ k, F k → ¬ G k) : Mx w' B F side M := by
  obtain ⟨lv, root, nv, lvv, ns, A, ps, hq, hl, rfl⟩ := h
  exact ⟨lv, root, nv, lvv, ns, A, ps, hq.kept hf hG, hl, rfl⟩
theorem Mx.still (h : Mx w B F side M) (hf : Far (fun _ => False) w w') : Mx w' B F side M := h.kept hf fun _ _ h => h
theorem Mx.sides (h : Mx w B F side M) : 1 ≤ side ∧ side ≤ 1024 := by
  obtain ⟨lv, root, nv, lvv, ns, A, ps, hq, hl, rfl⟩ := h
  exact ⟨hq.side1, hq.side2⟩
theorem Mx.within (h : Mx w B F side M) : ∀ r c, M r c = true → r < side ∧ c < side := by
  obtain ⟨lv, root, nv, lvv, ns, A, ps, hq, hl, rfl⟩ := h
  exact hq.within
theorem Mx.congr {M' : Nat → Nat → Bool} (h : Mx w B F side M) (e : ∀ r c, M' r c = M r c) : Mx w B F side M' := by
  have : M' = M := funext fun r => funext fun c => e r c
  rw [this]; exact h
theorem Mx.block (h : Mx w B F side M) : F B := by
  obtain ⟨lv, root, nv, lvv, ns, A, ps, hq, hl, rfl⟩ := h
  exact .inl rfl
/-- A block of another kind is not of the matrix. -/
theorem Mx.notBk (h : Mx w B F side M) {k : Nat} {t : TypeId} {cs : Array Value} (hb : Bk w k t cs) (h1 : t ≠ 111) (h2 : t ≠ 162) (h3 : t ≠ 97) : ¬ F k := by
  obtain ⟨lv, root, nv, lvv, ns, A, ps, hq, hl, rfl⟩ := h
  rintro (rfl | e | e)
  · have := hq.box; unfold Bk at hb this; rw [hb] at this; cases this; exact h1 rfl
  · exact q_row_ne hb hq.nodes h2 e
  · exact q_row_ne hb hq.leaves h3 e
end
/-- A cell more. -/
def putM (M : Nat → Nat → Bool) (i j : Nat) : Nat → Nat → Bool := fun r c => M r c || (decide (r = i) && decide (c = j))
theorem putM_same {M : Nat → Nat → Bool} {i j : Nat} (h : M i j = true) : ∀ r c, putM M i j r c = M r c := fun r c => by
  unfold putM
  by_cases e : r = i ∧ c = j
  · obtain ⟨rfl, rfl⟩ := e; simp [h]
  · by_cases e1 : r = i
    · have : ¬ c = j := fun e2 => e ⟨e1, e2⟩
      simp [this]
    · simp [e1]
theorem lrow_congr {M M' : Nat → Nat → Bool} {p : Nat × Nat} (h : ∀ r c, r < 64 → c < 64 → sub M' p.1 p.2 r c = sub M p.1 p.2 r c) : lrow M' p = lrow M p := by
  unfold lrow
  congr 1
  exact blk_congr h
theorem lrows_upd {M M' : Nat → Nat → Bool} {ps : List (Nat × Nat)} {k : Nat} {p : Nat × Nat} (hn : ps.Nodup) (hk : ps[k]? = some p) (h : ∀ p' : Nat × Nat, p' ≠ p → ∀ r c, r < 64 → c < 64 → sub M' p'.1 p'.2 r c = sub M p'.1 p'.2 r c) :
    lrows M' ps = (lrows M ps).set k (lrow M' p) := by
  have hkl := (List.getElem?_eq_some_iff.1 hk).1
  apply List.ext_getElem?
  intro q
  by_cases e : q = k
  · subst e
    rw [List.getElem?_set_self (by simp [lrows]; exact hkl), lrows_get hk]
  · rw [List.getElem?_set_ne (fun e2 => e e2.symm)]
    rcases Nat.lt_or_ge q ps.length with hq | hq
    · have h1 := List.getElem?_eq_getElem hq
      rw [lrows_get h1, lrows_get h1]
      have hne : ps[q] ≠ p := fun e2 => by
        rw [e2] at h1
        have := (List.getElem?_inj hq hn).1 (h1.trans hk.symm)
        exact e this
      rw [lrow_congr (h _ hne)]
    · rw [List.getElem?_eq_none (by simp [lrows]; exact hq), List.getElem?_eq_none (by simp [lrows]; exact hq)]
theorem sub_put {M : Nat → Nat → Bool} {i j : Nat} (a b r c : Nat) (hr : r < 64) (hc : c < 64) : sub (putM M i j) a b r c = (sub M a b r c || (decide (a = i / 64) && decide (b = j / 64) && (decide (r = i % 64) && decide (c = j % 64)))) := by
  unfold sub putM
  congr 1
  have h1 : (64 * a + r = i) ↔ (a = i / 64 ∧ r = i % 64) := by omega
  have h2 : (64 * b + c = j) ↔ (b = j / 64 ∧ c = j % 64) := by omega
  rw [Bool.eq_iff_iff]
  simp only [Bool.and_eq_true, decide_eq_true_eq, h1, h2]
  constructor
  · rintro ⟨⟨a1, a2⟩, b1, b2⟩; exact ⟨⟨a1, b1⟩, a2, b2⟩
  · rintro ⟨⟨a1, b1⟩, a2, b2⟩; exact ⟨⟨a1, a2⟩, b1, b2⟩
theorem lrow_put {M : Nat → Nat → Bool} {i j : Nat} : lrow (putM M i j) (i / 64, j / 64) = (lrow M (i / 64, j / 64)).set (i % 64) (.int .u64 ((blk (sub M (i / 64) (j / 64)) (i % 64) ||| 2 ^ (j % 64) : Nat))) := by
  have hr : i % 64 < 64 := Nat.mod_lt _ (by decide)
  have hc : j % 64 < 64 := Nat.mod_lt _ (by decide)
  have e : Rw (putB (blk (sub M (i / 64) (j / 64))) (i % 64) (j % 64)) = Rw (blk (sub (putM M i j) (i / 64) (j / 64))) :=
    Rw_blk ((blk_wf _).putB hr hc) fun r c hr' hc' => by
      rw [putB_bit, blk_bit _ _ _ hc', sub_put _ _ _ _ hr' hc']; simp
  unfold lrow
  rw [← e, putB, ← Rw_set]
  simp
theorem lrows_put {M : Nat → Nat → Bool} {i j k : Nat} {ps : List (Nat × Nat)} (hn : ps.Nodup) (hk : ps[k]? = some (i / 64, j / 64)) :
    (lrows M ps).flatten.set (k * 64 + i % 64) (.int .u64 ((blk (sub M (i / 64) (j / 64)) (i % 64) ||| 2 ^ (j % 64) : Nat))) = (lrows (putM M i j) ps).flatten := by
  rw [flat_set (lrows_even M ps) (lrows_get hk) _ (Nat.mod_lt _ (by decide)), ← lrow_put, ← lrows_upd hn hk]
  rintro ⟨a, b⟩ hne r c hr hc
  rw [sub_put _ _ _ _ hr hc]
  have : (decide (a = i / 64) && decide (b = j / 64)) = false := by
    rw [Bool.and_eq_false_iff, decide_eq_false_iff_not, decide_eq_false_iff_not]
    by_cases h1 : a = i / 64
    · right; intro h2; exact hne (by rw [h1, h2])
    · exact .inl h1
  rw [this]; simp
end Go.Proofs.YtoaeeojnelmlnaaDoor
