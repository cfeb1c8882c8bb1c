/-
  GssNodes: what its walk needs.
-/
import Derived.Test.YthpkbeooplpinaaGssAwake
namespace Go.Proofs.Ythpkbeooplpinaa
open Go.RowKit
set_option linter.unusedVariables false
set_option linter.unusedSimpArgs false
/-- Nodes are apart: each is found at its own number. -/
def Dist (l : List Nd) : Prop := ∀ (i : Nat) (r : Nd), l[i]? = some r → look l r.mark r.place = some i
theorem look_some {l : List Nd} {a b : Int} {j : Nat} (h : look l a b = some j) : ∃ r, l[j]? = some r ∧ r.mark = a ∧ r.place = b := by
  unfold look at h
  obtain ⟨hj, h1, _⟩ := List.findIdx?_eq_some_iff_getElem.1 h
  refine ⟨l[j], by simp [hj], ?_⟩
  simpa using h1
theorem Dist.more {l : List Nd} (h : Dist l) {a b : Int} (hn : look l a b = none) : Dist (l ++ [⟨a, b, [], []⟩]) := by
  intro i r hr
  rw [look_new hn]
  rcases Nat.lt_or_ge i l.length with hlt | hge
  · rw [List.getElem?_append_left hlt] at hr
    have := h i r hr
    rw [if_neg (fun e => by rw [e.1, e.2, hn] at this; cases this)]
    exact this
  · rw [List.getElem?_append_right hge] at hr
    rcases hk : i - l.length with _ | k
    · rw [hk] at hr
      simp at hr
      subst hr
      simp; omega
    · rw [hk] at hr; simp at hr
def spots (l : List Nd) : List (Int × Int) := l.map fun r => (r.mark, r.place)
theorem spots_length (l : List Nd) : (spots l).length = l.length := by simp [spots]
theorem fcells_get {l : List (Int × Int)} {k : Nat} {p : Int × Int} (h : l[k]? = some p) : (fcells l)[k * 2]? = some (.int .i64 p.1) ∧ (fcells l)[k * 2 + 1]? = some (.int .i64 p.2) := by
  induction l generalizing k with
  | nil => simp at h
  | cons x l ih =>
    have e : fcells (x :: l) = .int .i64 x.1 :: .int .i64 x.2 :: fcells l := rfl
    cases k with
    | zero => simp at h; subst h; rw [e]; exact ⟨rfl, rfl⟩
    | succ k =>
      have := ih (by simpa using h)
      rw [e, show (k + 1) * 2 = k * 2 + 1 + 1 by omega, show k * 2 + 1 + 1 + 1 = (k * 2 + 1) + 1 + 1 by omega]
      simpa only [List.getElem?_cons_succ] using this
theorem Far.cell {w w' : World} (h : Far (fun _ => False) w w') {p : Addr} (hp : p.block < w.heap.size) : w'.cell? p = w.cell? p := (h.below (Nat.le_refl _) (fun _ _ h => h)).cell hp
theorem Stk.apart {w : World} {B K : Nat} {l : List Nd} {F : Nat → Prop} (h : Stk w B K l F) {base : Nat} {e : TypeId} {size : Nat} {v : Value} {n : Nat} {xs : List Value} (hr : w.ownsRow base e size v n xs)
    (h1 : (77 : TypeId) ≠ e) (h2 : (81 : TypeId) ≠ e) (h3 : (38 : TypeId) ≠ e) (h4 : (3 : TypeId) ≠ e) : ∀ k, F k → v.ownBlock ≠ some k := by
  obtain ⟨m1, m2, m3, sl, L, c1, c2, c3, hC, _, rfl⟩ := h
  rintro k (rfl | rfl | rfl | rfl | hk | ⟨s, hs, hk⟩) hv
  · exact row_ne hC.top hr h1 hv
  · exact tally_ne hC.t1 hr hv
  · exact tally_ne hC.t2 hr hv
  · exact tally_ne hC.t3 hr hv
  · rcases rows_ne hC.row hr h2 with e' | e'
    · rw [e'] at hk; cases hk
    · exact e' (hk.trans hv.symm)
  · obtain ⟨i, hi⟩ := List.getElem?_of_mem hs
    rcases hk with hk | hk
    · rcases rows_ne (hC.frames i s hi) hr h3 with e' | e'
      · rw [e'] at hk; cases hk
      · exact e' (hk.trans hv.symm)
    · rcases rows_ne (hC.pops i s hi) hr h4 with e' | e'
      · rw [e'] at hk; cases hk
      · exact e' (hk.trans hv.symm)
theorem eq_arr2 (a b c d : Int) (w : World) : (Op.equalIn 10000 70 (.agg #[.int .i64 a, .int .i64 b]) (.agg #[.int .i64 c, .int .i64 d])).run Try.prog w = .ok (a == c && b == d) w := by
  have hs : ∃ i, Try.prog.info? 3 = some i ∧ i.size = 1 := by
    obtain ⟨i, hi, _, h1, _⟩ := info_parts info_int
    exact ⟨i, hi, h1⟩
  obtain ⟨i, hi, h1⟩ := hs
  have hsz : (sizeOf 3).run Try.prog w = .ok 1 w := by simp [sizeOf, typeInfo, hi, h1]
  have wd : Try.prog.underlying 3 = some (.int .i64) := by kernel_rfl
  show (Op.equalIn (9998 + 1 + 1) 70 (.agg #[.int .i64 a, .int .i64 b]) (.agg #[.int .i64 c, .int .i64 d])).run Try.prog w = _
  generalize 9998 = d'
  unfold Op.equalIn
  simp only [Sem.run_bind, run_underlying Try.underlying70, hsz, Result.andThen_ok]
  have e1 := run_equalIn_int (P := Try.prog) w d' 3 .i64 .i64 a c wd
  have e2 := run_equalIn_int (P := Try.prog) w d' 3 .i64 .i64 b d wd
  cases h1 : a == c <;> cases h2 : b == d <;> simp [Sem.run_bind, part, e1, e2, h1, h2, Result.andThen, List.range'_succ]
theorem info_arr2 : (Try.prog.info? 70).map (fun i => (i.zero, i.size, i.bytes)) = some (some (.agg #[.int .i64 0, .int .i64 0]), 2, 16) := by kernel_rfl
/-- A list of pairs that was handed in. -/
def Prs (w : World) (ao : Option Addr) (n : Nat) (f : Nat → Int × Int) : Prop := 0 < n → ∃ g off, ao = some ⟨g, off, none⟩ ∧ g < w.heap.size ∧ ∀ k, k < n → w.cell? ⟨g, off + k * 2, none⟩ = some (.int .i64 (f k).1) ∧ w.cell? ⟨g, off + k * 2 + 1, none⟩ = some (.int .i64 (f k).2)
end Go.Proofs.Ythpkbeooplpinaa
