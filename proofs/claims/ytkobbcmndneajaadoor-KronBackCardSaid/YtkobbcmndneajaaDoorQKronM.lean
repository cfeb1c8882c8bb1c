/-
  Kronecker's product of two relations.
-/
import Derived.Test.YtkobbcmndneajaaDoorQRef
import Derived.Test.YtkobbcmndneajaaDoorQPRows
import Derived.Test.YtkobbcmndneajaaDoorQOfAny
namespace Go.Proofs.YtkobbcmndneajaaDoor
open Go.RowKit Go.Shelf
set_option linter.unusedVariables false
set_option linter.unusedSimpArgs false
/-- A relation with a list of cells more. -/
def addL (M : Nat → Nat → Bool) (L : List (Nat × Nat)) : Nat → Nat → Bool := fun r c => M r c || decide ((r, c) ∈ L)
theorem addL_nil (M : Nat → Nat → Bool) : ∀ r c, addL M [] r c = M r c := fun r c => by simp [addL]
theorem addL_app (M : Nat → Nat → Bool) (L : List (Nat × Nat)) (i j : Nat) : ∀ r c, addL M (L ++ [(i, j)]) r c = putM (addL M L) i j r c := fun r c => by
  rw [Bool.eq_iff_iff]
  simp only [addL, putM, Bool.or_eq_true, decide_eq_true_eq, List.mem_append, List.mem_singleton, Prod.mk.injEq, Bool.and_eq_true, or_assoc]
/-- Has the list a cell that is not in the relation? -/
def newL (M : Nat → Nat → Bool) (L : List (Nat × Nat)) : Bool := L.any fun x => !M x.1 x.2
theorem newL_app (M : Nat → Nat → Bool) (L : List (Nat × Nat)) (x : Nat × Nat) : newL M (L ++ [x]) = (newL M L || !addL M L x.1 x.2) := by
  unfold newL addL
  rw [List.any_append, Bool.eq_iff_iff]
  simp only [List.any_cons, List.any_nil, Bool.or_false, Bool.or_eq_true, List.any_eq_true, Bool.not_eq_true', Bool.or_eq_false_iff, decide_eq_false_iff_not]
  constructor
  · rintro (h | h)
    · exact .inl h
    · by_cases hx : (x.1, x.2) ∈ L
      · exact .inl ⟨x, hx, h⟩
      · exact .inr ⟨h, hx⟩
  · rintro (h | h)
    · exact .inl h
    · exact .inr h.1
/-- The cells of the product, in the order in which they are laid. -/
def kronR (q : Nat) (x : Nat × Nat) (l : List (Nat × Nat)) : List (Nat × Nat) := l.map fun y => (x.1 * q + y.1, x.2 * q + y.2)
def kronL (q : Nat) (k l : List (Nat × Nat)) : List (Nat × Nat) := k.flatMap fun x => kronR q x l
theorem kronL_nil (q : Nat) (l : List (Nat × Nat)) : kronL q [] l = [] := rfl
theorem kronL_app (q : Nat) (k l : List (Nat × Nat)) (x : Nat × Nat) : kronL q (k ++ [x]) l = kronL q k l ++ kronR q x l := by unfold kronL; rw [List.flatMap_append]; simp
theorem kronR_nil (q : Nat) (x : Nat × Nat) : kronR q x [] = [] := rfl
theorem kronR_app (q : Nat) (x y : Nat × Nat) (l : List (Nat × Nat)) : kronR q x (l ++ [y]) = kronR q x l ++ [(x.1 * q + y.1, x.2 * q + y.2)] := by simp [kronR]
/-- Kronecker's product, the inner side q. -/
def kronM (A B : Nat → Nat → Bool) (q : Nat) : Nat → Nat → Bool := fun r c => A (r / q) (c / q) && B (r % q) (c % q)
theorem kron_div {q i k : Nat} (hk : k < q) : (i * q + k) / q = i ∧ (i * q + k) % q = k := by
  have hq : 0 < q := by omega
  constructor
  · rw [Nat.mul_comm, Nat.mul_add_div hq, Nat.div_eq_of_lt hk, Nat.add_zero]
  · rw [Nat.mul_comm, Nat.mul_add_mod, Nat.mod_eq_of_lt hk]
theorem mem_kronL {A B : Nat → Nat → Bool} {p q : Nat} (hq : 0 < q) (ha : ∀ r c, A r c = true → r < p ∧ c < p) (hb : ∀ r c, B r c = true → r < q ∧ c < q) {r c : Nat} : (r, c) ∈ kronL q (cellsL A p) (cellsL B q) ↔ kronM A B q r c = true := by
  unfold kronL kronR kronM
  simp only [List.mem_flatMap, List.mem_map, Bool.and_eq_true, Prod.mk.injEq]
  constructor
  · rintro ⟨x, hx, y, hy, rfl, rfl⟩
    have h1 := (mem_cellsL ha).1 hx
    have h2 := (mem_cellsL hb).1 hy
    obtain ⟨h3, h4⟩ := hb _ _ h2
    rw [(kron_div h3).1, (kron_div h3).2, (kron_div h4).1, (kron_div h4).2]
    exact ⟨h1, h2⟩
  · rintro ⟨h1, h2⟩
    refine ⟨(r / q, c / q), (mem_cellsL ha).2 h1, (r % q, c % q), (mem_cellsL hb).2 h2, ?_, ?_⟩
    · rw [Nat.mul_comm]; exact Nat.div_add_mod r q
    · rw [Nat.mul_comm]; exact Nat.div_add_mod c q
theorem addL_kron {A B C : Nat → Nat → Bool} {p q : Nat} (hq : 0 < q) (ha : ∀ r c, A r c = true → r < p ∧ c < p) (hb : ∀ r c, B r c = true → r < q ∧ c < q) : ∀ r c, addL C (kronL q (cellsL A p) (cellsL B q)) r c = joinM C (kronM A B q) r c := fun r c => by
  unfold addL joinM
  congr 1
  rw [Bool.eq_iff_iff, decide_eq_true_eq, mem_kronL hq ha hb]
theorem kron_lt {p q i k : Nat} (hi : i < p) (hk : k < q) : i * q + k < p * q := by
  have h := Nat.mul_le_mul_right q (Nat.succ_le_of_lt hi)
  rw [Nat.succ_mul] at h
  omega
theorem kronM_within {A B : Nat → Nat → Bool} {p q : Nat} (hq : 0 < q) (ha : ∀ r c, A r c = true → r < p ∧ c < p) : ∀ r c, kronM A B q r c = true → r < p * q ∧ c < p * q := fun r c h => by
  unfold kronM at h
  rw [Bool.and_eq_true] at h
  obtain ⟨h1, h2⟩ := ha _ _ h.1
  exact ⟨(Nat.div_lt_iff_lt_mul hq).1 h1, (Nat.div_lt_iff_lt_mul hq).1 h2⟩
/-- The product of two such is such of the two products. -/
theorem kron_mul {A B C D : Nat → Nat → Bool} {p q : Nat} (hp : p ≤ 16) (hq : 0 < q) (hq2 : q ≤ 16) (ha : ∀ r c, A r c = true → r < p ∧ c < p) (hb : ∀ r c, B r c = true → r < q ∧ c < q) (hc : ∀ r c, C r c = true → r < p ∧ c < p) (hd : ∀ r c, D r c = true → r < q ∧ c < q) :
    ∀ r c, mulM (kronM A B q) (kronM C D q) r c = kronM (mulM A C) (mulM B D) q r c := fun r c => by
  have hpq : p * q ≤ 1024 := by have := Nat.mul_le_mul hp hq2; omega
  have h1 := mulM_iff (A := kronM A B q) (B := kronM C D q) (r := r) (c := c) hpq (kronM_within hq ha)
  rw [Bool.eq_iff_iff, h1]
  show _ ↔ (mulM A C (r / q) (c / q) && mulM B D (r % q) (c % q)) = true
  rw [Bool.and_eq_true, mulM_iff (side := p) (by omega) ha, mulM_iff (side := q) (by omega) hb]
  unfold kronM
  simp only [Bool.and_eq_true]
  constructor
  · rintro ⟨t, ⟨h1, h2⟩, h3, h4⟩
    exact ⟨⟨_, h1, h3⟩, _, h2, h4⟩
  · rintro ⟨⟨t, h1, h2⟩, u, h3, h4⟩
    have hu := (hb _ _ h3).2
    refine ⟨t * q + u, ?_⟩
    rw [(kron_div hu).1, (kron_div hu).2]
    exact ⟨⟨h1, h3⟩, h2, h4⟩
theorem kron_turn (A B : Nat → Nat → Bool) (q : Nat) : ∀ r c, tnM (kronM A B q) r c = kronM (tnM A) (tnM B) q r c := fun r c => rfl
end Go.Proofs.YtkobbcmndneajaaDoor
