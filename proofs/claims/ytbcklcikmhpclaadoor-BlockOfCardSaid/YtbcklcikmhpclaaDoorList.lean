/-
  The cells of a block in rising order, and how many there are.
-/
import Derived.Test.YtbcklcikmhpclaaDoorTz
import Derived.Test.YtbcklcikmhpclaaDoorLen
namespace Go.Proofs.YtbcklcikmhpclaaDoor
open Go.RowKit
set_option linter.unusedVariables false
set_option linter.unusedSimpArgs false
/-- The columns of a row, rising. -/
def rowL (x : Nat) : List Nat := (List.range 64).filter fun c => x.testBit c
/-- The cells of the first k rows, rising. -/
def cellsUp (f : Nat → Nat) : Nat → List (Nat × Nat)
  | 0 => []
  | k + 1 => cellsUp f k ++ (rowL (f k)).map fun c => (k, c)
theorem filter_first (p q : Nat → Bool) (c : Nat) (hp : p c = true) (hlow : ∀ i, i < c → p i = false) (hq : ∀ i, q i = (p i && !decide (i = c))) : ∀ n, c < n → (List.range n).filter p = c :: (List.range n).filter q
  | 0, h => absurd h (Nat.not_lt_zero _)
  | n + 1, h => by
    rw [List.range_succ, List.filter_append, List.filter_append]
    by_cases e : c = n
    · subst e
      have h1 : (List.range c).filter p = [] := List.filter_eq_nil_iff.2 fun i hi => by rw [hlow i (List.mem_range.1 hi)]; simp
      have h2 : (List.range c).filter q = [] := List.filter_eq_nil_iff.2 fun i hi => by rw [hq, hlow i (List.mem_range.1 hi)]; simp
      rw [h1, h2]
      simp [hp, hq]
    · rw [filter_first p q c hp hlow hq n (by omega), List.cons_append]
      have : q n = p n := by rw [hq, decide_eq_false (by omega)]; simp
      simp [List.filter_cons, this]
theorem low_none (x : Nat) (hx : x < 18446744073709551616) (hx0 : x ≠ 0) : ∀ i, i < Lib.ctz 64 x → x.testBit i = false := by
  have e : Lib.ctz 64 x = Lib.ctzFrom 64 x := by simp [Lib.ctz, hx0]
  rw [e]
  obtain ⟨m, hm, hk⟩ := Lib.ctzFrom_spec 64 x (by omega) hx
  generalize Lib.ctzFrom 64 x = k at *
  have h1 : x = 2 ^ k * (2 * m + 1) := by rw [hm]
  intro i hi
  rw [h1, Nat.testBit_two_pow_mul]
  simp; omega
theorem rowL_low (x : Nat) (hx : x < 18446744073709551616) (hx0 : x ≠ 0) : rowL x = Lib.ctz 64 x :: rowL (x &&& (x - 1)) := by
  obtain ⟨hk, hb, hi⟩ := low_facts x hx hx0
  exact filter_first _ _ _ hb (low_none x hx hx0) hi 64 hk
theorem rowL_zero : rowL 0 = [] := by unfold rowL; simp
theorem rowL_lt {x c : Nat} (h : c ∈ rowL x) : c < 64 := by unfold rowL at h; rw [List.mem_filter] at h; exact List.mem_range.1 h.1
theorem rowL_le (x : Nat) : (rowL x).length ≤ 64 := by
  have := List.length_filter_le (fun c => x.testBit c) (List.range 64)
  simpa [rowL] using this
theorem cellsUp_le (f : Nat → Nat) : ∀ k, (cellsUp f k).length ≤ 64 * k
  | 0 => Nat.le_refl _
  | k + 1 => by have := cellsUp_le f k; have := rowL_le (f k); simp [cellsUp]; omega
theorem cellsUp_prefix (f : Nat → Nat) {k n : Nat} (h : k ≤ n) : cellsUp f k <+: cellsUp f n := by
  induction n with
  | zero => rw [Nat.le_zero.1 h]; exact List.prefix_refl _
  | succ n ih =>
    by_cases e : k = n + 1
    · subst e; exact List.prefix_refl _
    · exact (ih (by omega)).trans (List.prefix_append _ _)

/-! ### OnesCount64 counts -/
/-- The masks, by bytes. -/
def mk (m : Nat) : Nat → Nat
  | 0 => 0
  | k + 1 => mk m k * 256 + m
theorem mk_succ (m k : Nat) : mk m (k + 1) = mk m k * 256 + m := rfl
def t1 (k x : Nat) : Nat := (x / 2 &&& mk 85 k) + (x &&& mk 85 k)
def t2 (k x : Nat) : Nat := (x / 4 &&& mk 51 k) + (x &&& mk 51 k)
def t3 (k x : Nat) : Nat := (x / 16 + x) &&& mk 15 k
theorem and_split (a b m d : Nat) (hb : b < 256) (hd : d < 256) : (a * 256 + b) &&& (m * 256 + d) = (a &&& m) * 256 + (b &&& d) := by
  have hbd : b &&& d < 256 := Nat.lt_of_le_of_lt Nat.and_le_left hb
  refine Nat.eq_of_testBit_eq fun i => ?_
  rw [Nat.testBit_and, Nat.mul_comm a, Nat.mul_comm m, Nat.mul_comm (a &&& m)]
  rw [show (256 : Nat) = 2 ^ 8 from rfl, Nat.testBit_two_pow_mul_add a (by simpa using hb) i, Nat.testBit_two_pow_mul_add m (by simpa using hd) i, Nat.testBit_two_pow_mul_add (a &&& m) (by simpa using hbd) i]
  by_cases hi : i < 8
  · simp [hi]
  · simp [hi]
def b1 (b : Nat) : Nat := (b / 2 &&& 85) + (b &&& 85)
def b2 (b : Nat) : Nat := (b / 4 &&& 51) + (b &&& 51)
def b3 (b : Nat) : Nat := (b / 16 + b) &&& 15
theorem f1 : ∀ b, b < 256 → (128 + b / 2) &&& 85 = b / 2 &&& 85 ∧ b1 b < 256 := by decide +kernel
theorem f2 : ∀ q, q < 4 → ∀ b, b < 256 → (q * 64 + b / 4) &&& 51 = b / 4 &&& 51 := by decide +kernel
theorem f3 : ∀ b, b < 256 → b2 (b1 b) % 16 ≤ 4 ∧ b2 (b1 b) ≤ 68 ∧ b3 (b2 (b1 b)) = (List.range 8).countP (fun c => b.testBit c) := by decide +kernel
theorem f4 : ∀ q, q < 5 → ∀ b, b < 69 → (q * 16 + b / 16 + b) &&& 15 = b3 b := by decide +kernel
theorem t1_step (k y b : Nat) (hb : b < 256) : t1 (k + 1) (y * 256 + b) = t1 k y * 256 + b1 b := by
  have e : (y * 256 + b) / 2 = (y / 2) * 256 + ((y % 2) * 128 + b / 2) := by omega
  have h : ((y % 2) * 128 + b / 2) &&& 85 = b / 2 &&& 85 := by
    rcases (by omega : y % 2 = 0 ∨ y % 2 = 1) with h | h <;> rw [h]
    · simp
    · simpa using (f1 b hb).1
  unfold t1
  rw [mk_succ, e, and_split _ _ _ _ (by omega) (by decide), and_split _ _ _ _ hb (by decide), h]
  unfold b1
  omega
theorem t2_step (k y b : Nat) (hb : b < 256) : t2 (k + 1) (y * 256 + b) = t2 k y * 256 + b2 b := by
  have e : (y * 256 + b) / 4 = (y / 4) * 256 + ((y % 4) * 64 + b / 4) := by omega
  unfold t2
  rw [mk_succ, e, and_split _ _ _ _ (by omega) (by decide), and_split _ _ _ _ hb (by decide), f2 _ (Nat.mod_lt _ (by decide)) b hb]
  unfold b2
  omega
theorem t3_step (k y b : Nat) (hb : b ≤ 68) (hy : y % 16 ≤ 4) : t3 (k + 1) (y * 256 + b) = t3 k y * 256 + b3 b := by
  have e : (y * 256 + b) / 16 + (y * 256 + b) = (y / 16 + y) * 256 + ((y % 16) * 16 + b / 16 + b) := by omega
  unfold t3
  rw [mk_succ, e, and_split _ _ _ _ (by omega) (by decide), f4 _ (by omega) b (by omega)]
/-- The number of bits of the first k bytes, a byte each. -/
def pk : Nat → Nat → Nat
  | 0, _ => 0
  | k + 1, x => pk k (x / 256) * 256 + (List.range 8).countP (fun c => (x % 256).testBit c)
theorem pk_succ (k x : Nat) : pk (k + 1) x = pk k (x / 256) * 256 + (List.range 8).countP (fun c => (x % 256).testBit c) := rfl
theorem t_low (k x : Nat) : t2 k (t1 k x) % 16 ≤ 4 := by
  cases k with
  | zero => simp [t2, mk]
  | succ k =>
    obtain ⟨y, b, rfl, hb⟩ : ∃ y b, x = y * 256 + b ∧ b < 256 := ⟨x / 256, x % 256, by omega, Nat.mod_lt _ (by decide)⟩
    rw [t1_step k y b hb, t2_step _ _ _ (f1 b hb).2]
    have := (f3 b hb).1
    omega
theorem t_all : ∀ k x, t3 k (t2 k (t1 k x)) = pk k x
  | 0, x => by simp [t3, mk, pk]
  | k + 1, x => by
    obtain ⟨y, b, rfl, hb⟩ : ∃ y b, x = y * 256 + b ∧ b < 256 := ⟨x / 256, x % 256, by omega, Nat.mod_lt _ (by decide)⟩
    rw [t1_step k y b hb, t2_step _ _ _ (f1 b hb).2, t3_step _ _ _ (f3 b hb).2.1 (t_low k y), t_all k y, (f3 b hb).2.2]
    rw [pk_succ, show (y * 256 + b) / 256 = y by omega, show (y * 256 + b) % 256 = b by omega]
theorem count_split (n x : Nat) : (List.range (8 + n)).countP (fun c => x.testBit c) = (List.range 8).countP (fun c => (x % 256).testBit c) + (List.range n).countP (fun c => (x / 256).testBit c) := by
  rw [List.range_add, List.countP_append, List.countP_map]
  congr 1
  · refine List.countP_congr fun c hc => ?_
    have : c < 8 := List.mem_range.1 hc
    rw [show (256 : Nat) = 2 ^ 8 from rfl, Nat.testBit_mod_two_pow]
    simp [this]
  · refine List.countP_congr fun c hc => ?_
    rw [show (256 : Nat) = 2 ^ 8 from rfl, Nat.testBit_div_two_pow]
    simp [Nat.add_comm]
theorem byte_le (x : Nat) : (List.range 8).countP (fun c => x.testBit c) ≤ 8 := by
  have := List.countP_le_length (p := fun c => x.testBit c) (l := List.range 8)
  simpa using this
theorem div_of {lo hi d : Nat} (h : lo < d) : (lo + d * hi) / d = hi := by
  rw [Nat.add_mul_div_left _ _ (by omega), Nat.div_eq_of_lt h, Nat.zero_add]
theorem b1_ (a b : Nat) (ha : a ≤ 32) (hb : b ≤ 32) : a + 256 * b < 65536 := by omega
theorem b2_ (a b c d : Nat) (ha : a ≤ 32) (hb : b ≤ 32) (hc : c ≤ 32) (hd : d ≤ 32) : a + 256 * b + 65536 * c + 16777216 * d < 4294967296 := by omega
theorem b4_ (a b c d : Nat) (ha : a ≤ 8) (hb : b ≤ 8) (hc : c ≤ 8) (hd : d ≤ 8) : a + b + c + d ≤ 32 := by omega
theorem e1 (p1 T X : Nat) (hX : X = p1 + 256 * T) (h1 : p1 ≤ 8) : X / 256 = T := by rw [hX]; exact div_of (by omega)
theorem e2 (p1 p2 p3 p4 p5 p6 p7 p8 T R : Nat) (hT : T = p2 + 256 * (p3 + 256 * (p4 + 256 * (p5 + 256 * (p6 + 256 * (p7 + 256 * p8)))))) (hR : R = (p3 + p4) + 256 * ((p4 + p5) + 256 * ((p5 + p6) + 256 * ((p6 + p7) + 256 * ((p7 + p8) + 256 * p8))))) : p1 + 256 * T + T = (p1 + p2 + 256 * (p2 + p3)) + 65536 * R := by subst hT; subst hR; omega
theorem e3 (p1 p2 p3 p4 p5 p6 p7 p8 R S : Nat) (hR : R = (p3 + p4) + 256 * ((p4 + p5) + 256 * ((p5 + p6) + 256 * ((p6 + p7) + 256 * ((p7 + p8) + 256 * p8))))) (hS : S = (p5 + p6 + p7 + p8) + 256 * ((p6 + p7 + p8) + 256 * ((p7 + p8) + 256 * p8))) :
   (p1 + p2 + 256 * (p2 + p3)) + 65536 * R + R = (p1 + p2 + p3 + p4 + 256 * (p2 + p3 + p4 + p5) + 65536 * (p3 + p4 + p5 + p6) + 16777216 * (p4 + p5 + p6 + p7)) + 4294967296 * S := by subst hR; subst hS; omega
theorem e4 (p1 p2 p3 p4 p5 p6 p7 p8 S : Nat) (hS : S = (p5 + p6 + p7 + p8) + 256 * ((p6 + p7 + p8) + 256 * ((p7 + p8) + 256 * p8))) :
   (p1 + p2 + p3 + p4 + 256 * (p2 + p3 + p4 + p5) + 65536 * (p3 + p4 + p5 + p6) + 16777216 * (p4 + p5 + p6 + p7)) + 4294967296 * S + S = (p1 + p2 + p3 + p4 + p5 + p6 + p7 + p8) + 128 * (2 * (p2 + p3 + p4 + p5) + 512 * (p3 + p4 + p5 + p6) + 131072 * (p4 + p5 + p6 + p7) + 33554432 * S + 2 * ((p6 + p7 + p8) + 256 * ((p7 + p8) + 256 * p8))) := by subst hS; omega
theorem s6_sum (p1 p2 p3 p4 p5 p6 p7 p8 : Nat) (h1 : p1 ≤ 8) (h2 : p2 ≤ 8) (h3 : p3 ≤ 8) (h4 : p4 ≤ 8) (h5 : p5 ≤ 8) (h6 : p6 ≤ 8) (h7 : p7 ≤ 8) (h8 : p8 ≤ 8) (T R S X : Nat)
    (hX : X = p1 + 256 * T) (hT : T = p2 + 256 * (p3 + 256 * (p4 + 256 * (p5 + 256 * (p6 + 256 * (p7 + 256 * p8)))))) (hR : R = (p3 + p4) + 256 * ((p4 + p5) + 256 * ((p5 + p6) + 256 * ((p6 + p7) + 256 * ((p7 + p8) + 256 * p8))))) (hS : S = (p5 + p6 + p7 + p8) + 256 * ((p6 + p7 + p8) + 256 * ((p7 + p8) + 256 * p8))) : s6 X = p1 + p2 + p3 + p4 + p5 + p6 + p7 + p8 := by
  have l1 : p1 + p2 + 256 * (p2 + p3) < 65536 := b1_ _ _ (Nat.le_trans (Nat.add_le_add h1 h2) (by decide)) (Nat.le_trans (Nat.add_le_add h2 h3) (by decide))
  have l2 := b2_ _ _ _ _ (b4_ p1 p2 p3 p4 h1 h2 h3 h4) (b4_ p2 p3 p4 p5 h2 h3 h4 h5) (b4_ p3 p4 p5 p6 h3 h4 h5 h6) (b4_ p4 p5 p6 p7 h4 h5 h6 h7)
  have l3 : p1 + p2 + p3 + p4 + p5 + p6 + p7 + p8 < 128 := by
    have := Nat.add_le_add (b4_ p1 p2 p3 p4 h1 h2 h3 h4) (b4_ p5 p6 p7 p8 h5 h6 h7 h8)
    simp only [← Nat.add_assoc] at this
    exact Nat.lt_of_le_of_lt this (by decide)
  have a := e1 p1 T X hX h1
  have eb := e2 p1 p2 p3 p4 p5 p6 p7 p8 T R hT hR
  have ec := e3 p1 p2 p3 p4 p5 p6 p7 p8 R S hR hS
  have ed := e4 p1 p2 p3 p4 p5 p6 p7 p8 S hS
  clear hT hR hS
  rw [← hX] at eb
  have b : (X + T) / 65536 = R := by rw [eb]; exact div_of l1
  rw [← eb] at ec
  have c : (X + T + R) / 4294967296 = S := by rw [ec]; exact div_of l2
  rw [← ec] at ed
  unfold s6
  simp only []
  rw [a, b, c, ed, Nat.add_mul_mod_self_left, Nat.mod_eq_of_lt l3]
theorem horner (p1 p2 p3 p4 p5 p6 p7 p8 : Nat) : (((((((0 * 256 + p8) * 256 + p7) * 256 + p6) * 256 + p5) * 256 + p4) * 256 + p3) * 256 + p2) * 256 + p1 = p1 + 256 * (p2 + 256 * (p3 + 256 * (p4 + 256 * (p5 + 256 * (p6 + 256 * (p7 + 256 * p8)))))) := by omega
theorem oc_len (x : Nat) (hx : x < 18446744073709551616) : oc x = (rowL x).length := by
  have e : s3 (s2 (s1 x)) = pk 8 x := t_all 8 x
  unfold oc
  rw [e]
  unfold rowL
  rw [← List.countP_eq_length_filter]
  rw [show (64 : Nat) = 8 + 56 from rfl, count_split, show (56 : Nat) = 8 + 48 from rfl, count_split, show (48 : Nat) = 8 + 40 from rfl, count_split, show (40 : Nat) = 8 + 32 from rfl, count_split,
    show (32 : Nat) = 8 + 24 from rfl, count_split, show (24 : Nat) = 8 + 16 from rfl, count_split, show (16 : Nat) = 8 + 8 from rfl, count_split]
  simp only [pk]
  have hX : x / 256 / 256 / 256 / 256 / 256 / 256 / 256 % 256 = x / 256 / 256 / 256 / 256 / 256 / 256 / 256 := by omega
  rw [hX]
  have h1 := byte_le (x % 256)
  have h2 := byte_le (x / 256 % 256)
  have h3 := byte_le (x / 256 / 256 % 256)
  have h4 := byte_le (x / 256 / 256 / 256 % 256)
  have h5 := byte_le (x / 256 / 256 / 256 / 256 % 256)
  have h6 := byte_le (x / 256 / 256 / 256 / 256 / 256 % 256)
  have h7 := byte_le (x / 256 / 256 / 256 / 256 / 256 / 256 % 256)
  have h8 := byte_le (x / 256 / 256 / 256 / 256 / 256 / 256 / 256)
  generalize (List.range 8).countP (fun c => (x % 256).testBit c) = p1 at *
  generalize (List.range 8).countP (fun c => (x / 256 % 256).testBit c) = p2 at *
  generalize (List.range 8).countP (fun c => (x / 256 / 256 % 256).testBit c) = p3 at *
  generalize (List.range 8).countP (fun c => (x / 256 / 256 / 256 % 256).testBit c) = p4 at *
  generalize (List.range 8).countP (fun c => (x / 256 / 256 / 256 / 256 % 256).testBit c) = p5 at *
  generalize (List.range 8).countP (fun c => (x / 256 / 256 / 256 / 256 / 256 % 256).testBit c) = p6 at *
  generalize (List.range 8).countP (fun c => (x / 256 / 256 / 256 / 256 / 256 / 256 % 256).testBit c) = p7 at *
  generalize (List.range 8).countP (fun c => (x / 256 / 256 / 256 / 256 / 256 / 256 / 256).testBit c) = p8 at *
  rw [s6_sum p1 p2 p3 p4 p5 p6 p7 p8 h1 h2 h3 h4 h5 h6 h7 h8 _ _ _ _ (horner p1 p2 p3 p4 p5 p6 p7 p8) rfl rfl rfl]
  simp only [Nat.add_assoc]
theorem len_cells (f : Nat → Nat) (hf : Wf f) : ∀ k, k ≤ 64 → lenB f k = (cellsUp f k).length
  | 0, _ => rfl
  | k + 1, h => by
    unfold lenB cellsUp
    rw [len_cells f hf k (by omega), oc_len (f k) (hf k (by omega))]
    simp
end Go.Proofs.YtbcklcikmhpclaaDoor
