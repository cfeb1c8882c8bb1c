/-
  Arcs and their order, plainly; when an automaton may be.
-/
import Derived.Test.YtihlfphokgicbaaDoorMem
namespace Go.Proofs.YtihlfphokgicbaaDoor
open Go.RowKit
set_option linter.unusedVariables false
set_option linter.unusedSimpArgs false
/-- An arc: from, label?, number, to. -/
abbrev Ar := Int × Bool × Int × Int
def cmpI (a b : Int) : Int := if a < b then -1 else if b < a then 1 else 0
def symO (l : Bool) (n : Int) (l' : Bool) (n' : Int) : Int := if l = l' then cmpI n n' else if l' then -1 else 1
def ordO (x y : Ar) : Int := if cmpI x.1 y.1 ≠ 0 then cmpI x.1 y.1 else if symO x.2.1 x.2.2.1 y.2.1 y.2.2.1 ≠ 0 then symO x.2.1 x.2.2.1 y.2.1 y.2.2.1 else cmpI x.2.2.2 y.2.2.2
def symL (l : Bool) (n : Int) (l' : Bool) (n' : Int) : Bool := if l = l' then decide (n < n') else l'
def lessA (x y : Ar) : Bool := if x.1 ≠ y.1 then decide (x.1 < y.1) else if x.2.1 = y.2.1 ∧ x.2.2.1 = y.2.2.1 then decide (x.2.2.2 < y.2.2.2) else symL x.2.1 x.2.2.1 y.2.1 y.2.2.1
theorem cmpI_rng (a b : Int) : -1 ≤ cmpI a b ∧ cmpI a b ≤ 1 := by unfold cmpI; split <;> (try split) <;> omega
theorem symO_rng (l : Bool) (n : Int) (l' : Bool) (n' : Int) : -1 ≤ symO l n l' n' ∧ symO l n l' n' ≤ 1 := by
  unfold symO; split
  · exact cmpI_rng _ _
  · split <;> omega
theorem ordO_less (x y : Ar) : (0 ≤ ordO x y) ↔ lessA x y = false := by
  obtain ⟨f, l, n, t⟩ := x
  obtain ⟨f', l', n', t'⟩ := y
  unfold ordO lessA symO symL cmpI
  simp only []
  rcases Int.lt_trichotomy f f' with h | h | h
  · simp [h, Int.ne_of_lt h]
  · subst h
    simp only [Int.lt_irrefl, if_false, ne_eq, not_true_eq_false]
    cases l <;> cases l' <;> simp
    all_goals
      rcases Int.lt_trichotomy n n' with h | h | h
      · have h4 : ¬ n = n' := by omega
        rw [if_neg h4]
        simp [h]
      · subst h
        simp
        by_cases h5 : t < t'
        · simp [h5]
        · by_cases h6 : t' < t
          · simp [h5, h6]; omega
          · simp [h5, h6]; omega
      · have h3 : ¬ n < n' := by omega
        have h4 : ¬ n = n' := by omega
        rw [if_neg h4]
        simp [h, h3]
        omega
  · have h2 : ¬ f < f' := by omega
    simp [h, h2, Int.ne_of_gt h]
def finAt (S : Int) (f : Nat → Int) (i : Nat) : Prop := 0 ≤ f i ∧ f i < S ∧ (0 < i → f (i - 1) < f i)
def arcAt (S : Int) (g : Nat → Ar) (i : Nat) : Prop := 0 ≤ (g i).1 ∧ (g i).1 < S ∧ 0 ≤ (g i).2.2.2 ∧ (g i).2.2.2 < S ∧ 0 ≤ (g i).2.2.1 ∧ (0 < i → lessA (g (i - 1)) (g i) = true)
/-- The automaton may be. -/
def MayBe (S : Int) (n : Nat) (f : Nat → Int) (m : Nat) (g : Nat → Ar) : Prop := 1 ≤ S ∧ S ≤ 65 ∧ (∀ i, i < n → finAt S f i) ∧ ∀ i, i < m → arcAt S g i
noncomputable def code (P : Prop) : Int := open Classical in if P then 0 else 200
theorem code_yes {P : Prop} (h : P) : code P = 0 := if_pos h
theorem code_no {P : Prop} (h : ¬ P) : code P = 200 := if_neg h
def FitA (x : Ar) : Prop := Fit x.1 ∧ Fit x.2.2.1 ∧ Fit x.2.2.2
/-- A list of arcs that was handed in. -/
def Arcs (w : World) (ao : Option Addr) (n : Nat) (g : Nat → Ar) : Prop := 0 < n → ∃ b off, ao = some ⟨b, off, none⟩ ∧ b < w.heap.size ∧ ∀ k, k < n → w.cell? ⟨b, off + k * 4, none⟩ = some (.int .i64 (g k).1) ∧ w.cell? ⟨b, off + k * 4 + 1, none⟩ = some (.bool (g k).2.1) ∧ w.cell? ⟨b, off + k * 4 + 2, none⟩ = some (.int .i64 (g k).2.2.1) ∧ w.cell? ⟨b, off + k * 4 + 3, none⟩ = some (.int .i64 (g k).2.2.2)
theorem Arcs.move {w w' : World} {ao : Option Addr} {n : Nat} {g : Nat → Ar} (h : Arcs w ao n g) (hf : Far (fun _ => False) w w') : Arcs w' ao n g := fun hn => by
  obtain ⟨b, off, e, hb, hc⟩ := h hn
  refine ⟨b, off, e, Nat.lt_of_lt_of_le hb hf.size, fun k hk => ?_⟩
  obtain ⟨c0, c1, c2, c3⟩ := hc k hk
  exact ⟨(hf.cell hb).trans c0, (hf.cell hb).trans c1, (hf.cell hb).trans c2, (hf.cell hb).trans c3⟩
end Go.Proofs.YtihlfphokgicbaaDoor
