/-
  How many cells there are.
-/
import Derived.Test.YtoaeeojnelmlnaaDoorQPop
import Derived.Test.YtoaeeojnelmlnaaDoorQCopy
namespace Go.Proofs.YtoaeeojnelmlnaaDoor
set_option linter.unusedVariables false
set_option linter.unusedSimpArgs false
/-- The sum of the first n. -/
def sumN (f : Nat → Nat) : Nat → Nat
  | 0 => 0
  | n + 1 => sumN f n + f n
theorem sumN_congr {f g : Nat → Nat} : ∀ {n : Nat}, (∀ i, i < n → f i = g i) → sumN f n = sumN g n
  | 0, _ => rfl
  | n + 1, h => by simp only [sumN]; rw [sumN_congr (n := n) fun i hi => h i (by omega), h n (by omega)]
theorem sumN_add (f g : Nat → Nat) : ∀ n, sumN (fun i => f i + g i) n = sumN f n + sumN g n
  | 0 => rfl
  | n + 1 => by simp only [sumN]; rw [sumN_add f g n]; omega
theorem sumN_zero : ∀ n, sumN (fun _ => 0) n = 0
  | 0 => rfl
  | n + 1 => by simp only [sumN]; rw [sumN_zero n]
theorem sumN_comm (f : Nat → Nat → Nat) (m : Nat) : ∀ n, sumN (fun i => sumN (fun j => f i j) m) n = sumN (fun j => sumN (fun i => f i j) n) m
  | 0 => by simp only [sumN]; rw [sumN_zero]
  | n + 1 => by simp only [sumN]; rw [sumN_comm f m n, ← sumN_add]
theorem sumN_split (f : Nat → Nat) (k : Nat) : ∀ n, sumN f (k * n) = sumN (fun i => sumN (fun r => f (k * i + r)) k) n
  | 0 => rfl
  | n + 1 => by
    have key : ∀ m, sumN f (k * n + m) = sumN f (k * n) + sumN (fun r => f (k * n + r)) m := fun m => by
      induction m with
      | zero => rfl
      | succ m ih => rw [Nat.add_succ]; simp only [sumN]; rw [ih]; omega
    rw [Nat.mul_succ, key, sumN_split f k n]
    rfl
/-- One summand is greater by one. -/
theorem sumN_one {f g : Nat → Nat} : ∀ {n k : Nat}, k < n → f k = g k + 1 → (∀ i, i < n → i ≠ k → f i = g i) → sumN f n = sumN g n + 1
  | 0, _, h, _, _ => by omega
  | n + 1, k, h, h1, h2 => by
    simp only [sumN]
    by_cases e : k = n
    · subst e
      rw [h1, sumN_congr (f := f) (g := g) fun i hi => h2 i (by omega) (by omega)]
      omega
    · rw [sumN_one (n := n) (k := k) (by omega) h1 fun i hi => h2 i (by omega), h2 n (by omega) (by omega)]
      omega
theorem sumN_le {f : Nat → Nat} {k : Nat} : ∀ {n : Nat}, (∀ i, i < n → f i ≤ k) → sumN f n ≤ n * k
  | 0, _ => by simp [sumN]
  | n + 1, h => by
    have := sumN_le (n := n) fun i hi => h i (by omega)
    have := h n (by omega)
    simp only [sumN]; rw [Nat.succ_mul]; omega
def one (b : Bool) : Nat := if b then 1 else 0
/-- How many cells a block has. -/
def numB (S : Nat → Nat → Bool) : Nat := sumN (fun r => sumN (fun c => one (S r c)) 64) 64
/-- How many cells there are, of a side up to 1024. -/
def numM (M : Nat → Nat → Bool) : Nat := sumN (fun i => sumN (fun j => numB (sub M i j)) 16) 16
theorem pop_sum (S : Nat → Nat → Bool) (r : Nat) : ∀ n, n ≤ 64 → pop n (blk S r) = sumN (fun c => one (S r c)) n
  | 0, _ => by simp [pop, sumN]
  | n + 1, h => by
    simp only [sumN]
    rw [← pop_sum S r n (by omega)]
    unfold pop
    rw [List.range_succ, List.countP_append]
    congr 1
    rw [List.countP_singleton, blk_bit S r n (by omega)]
    rfl
theorem len_num (S : Nat → Nat → Bool) : lenB (blk S) 64 = numB S := by
  have key : ∀ k, lenB (blk S) k = sumN (fun r => sumN (fun c => one (S r c)) 64) k := fun k => by
    induction k with
    | zero => rfl
    | succ k ih =>
      show lenB (blk S) k + oc (blk S k) = sumN (fun r => sumN (fun c => one (S r c)) 64) k + sumN (fun c => one (S k c)) 64
      rw [ih, oc_pop, pop_sum S k 64 (Nat.le_refl _)]
  exact key 64
/-- Row by row. -/
theorem num_rows (M : Nat → Nat → Bool) : numM M = sumN (fun r => sumN (fun c => one (M r c)) 1024) 1024 := by
  rw [show (1024 : Nat) = 64 * 16 from rfl, sumN_split]
  unfold numM
  refine sumN_congr fun i hi => ?_
  have : ∀ r, sumN (fun c => one (M (64 * i + r) c)) (64 * 16) = sumN (fun j => sumN (fun c => one (sub M i j r c)) 64) 16 := fun r => by rw [sumN_split]; rfl
  rw [sumN_congr (f := fun r => sumN (fun c => one (M (64 * i + r) c)) (64 * 16)) (fun r _ => this r), sumN_comm]
  rfl
theorem numM_zero : numM (fun _ _ => false) = 0 := by
  rw [num_rows]
  have : ∀ n, sumN (fun c => one false) n = 0 := fun n => sumN_zero n
  simp only [this]
  exact sumN_zero _
theorem numM_congr {M M' : Nat → Nat → Bool} (h : ∀ r c, M r c = M' r c) : numM M = numM M' := by
  have : M = M' := funext fun r => funext fun c => h r c
  rw [this]
theorem numM_put {M : Nat → Nat → Bool} {i j : Nat} (hi : i < 1024) (hj : j < 1024) (h : M i j = false) : numM (putM M i j) = numM M + 1 := by
  rw [num_rows, num_rows]
  refine sumN_one hi ?_ fun r _ hr => ?_
  · refine sumN_one hj ?_ fun c _ hc => ?_
    · simp [putM, h, one]
    · simp [putM, hc]
  · refine sumN_congr fun c _ => ?_
    simp [putM, hr]
theorem numM_turn (M : Nat → Nat → Bool) : numM (tnM M) = numM M := by
  rw [num_rows, num_rows, sumN_comm]
  rfl
theorem numM_le (M : Nat → Nat → Bool) : numM M ≤ 1048576 := by
  rw [num_rows]
  refine Nat.le_trans (sumN_le (k := 1024 * 1) fun r _ => sumN_le fun c _ => ?_) (by decide)
  unfold one; split <;> omega
/-- The sum over a list of places. -/
theorem sum_places (g : Nat × Nat → Nat) (ps : List (Nat × Nat)) (hn : ps.Nodup) (h16 : ∀ p ∈ ps, p.1 < 16 ∧ p.2 < 16) (h0 : ∀ a b, (a, b) ∉ ps → g (a, b) = 0) :
    (ps.map g).sum = sumN (fun i => sumN (fun j => g (i, j)) 16) 16 := by
  induction ps generalizing g with
  | nil =>
    have : ∀ i, sumN (fun j => g (i, j)) 16 = 0 := fun i => by
      rw [sumN_congr (f := fun j => g (i, j)) (g := fun _ => 0) fun j _ => h0 i j (by simp)]; exact sumN_zero _
    simp only [this, sumN_zero, List.map_nil, List.sum_nil]
  | cons p ps ih =>
    obtain ⟨a, b⟩ := p
    rw [List.nodup_cons] at hn
    have hp := h16 (a, b) (List.mem_cons_self ..)
    have := ih (fun q => if q = (a, b) then 0 else g q) hn.2 (fun q hq => h16 q (List.mem_cons_of_mem _ hq)) (fun c d hm => by
      by_cases e : (c, d) = (a, b)
      · simp [e]
      · simp only [if_neg e]
        exact h0 c d (by simp only [List.mem_cons, not_or]; exact ⟨e, hm⟩))
    rw [List.map_congr_left (g := g) (fun q hq => if_neg (by rintro rfl; exact hn.1 hq))] at this
    rw [List.map_cons, List.sum_cons, this]
    have key : ∀ (f f' : Nat → Nat) (n k d : Nat), k < n → f k = f' k + d → (∀ i, i < n → i ≠ k → f i = f' i) → sumN f n = sumN f' n + d := fun f f' n k d => by
      induction n with
      | zero => intro h; omega
      | succ n ihn =>
        intro hk h1 h2
        simp only [sumN]
        by_cases e : k = n
        · subst e
          rw [h1, sumN_congr (f := f) (g := f') fun i hi => h2 i (by omega) (by omega)]; omega
        · rw [ihn (by omega) h1 fun i hi => h2 i (by omega), h2 n (by omega) (by omega)]; omega
    rw [key (fun i => sumN (fun j => g (i, j)) 16) (fun i => sumN (fun j => if (i, j) = (a, b) then 0 else g (i, j)) 16) 16 a (g (a, b)) hp.1 ?_ ?_]
    · omega
    · exact key _ _ 16 b _ hp.2 (by simp) fun j _ hj => by simp [hj]
    · intro i _ hi
      exact sumN_congr fun j _ => by simp [hi]
end Go.Proofs.YtoaeeojnelmlnaaDoor
