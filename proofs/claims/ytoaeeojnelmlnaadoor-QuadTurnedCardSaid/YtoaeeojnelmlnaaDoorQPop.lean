/-
  What OnesCount64 reckons is how many bits there are.
-/
import Derived.Test.YtoaeeojnelmlnaaDoorQLen
namespace Go.Proofs.YtoaeeojnelmlnaaDoor
set_option linter.unusedVariables false
set_option linter.unusedSimpArgs false
/-- How many bits a word has. -/
def pop (n x : Nat) : Nat := (List.range n).countP fun i => x.testBit i
theorem and_split (x c m : Nat) (hc : c < 256) : x &&& (c + 256 * m) = (x % 256 &&& c) + 256 * (x / 256 &&& m) := by
  have h1 : (x &&& (c + 256 * m)) % 256 = x % 256 &&& c := by
    have := Nat.and_mod_two_pow (a := x) (b := c + 256 * m) (n := 8)
    rw [show (2 : Nat) ^ 8 = 256 from rfl] at this
    rw [this, show (c + 256 * m) % 256 = c by omega]
  have h2 : (x &&& (c + 256 * m)) / 256 = x / 256 &&& m := by
    have := Nat.and_div_two_pow (a := x) (b := c + 256 * m) (n := 8)
    rw [show (2 : Nat) ^ 8 = 256 from rfl] at this
    rw [this, show (c + 256 * m) / 256 = m by omega]
  have := Nat.div_add_mod (x &&& (c + 256 * m)) 256
  omega
/-- Byte by byte. -/
def by8 (g : Nat → Nat) : Nat → Nat → Nat
  | 0, _ => 0
  | n + 1, x => g (x % 256) + 256 * by8 g n (x / 256)
def msk (c : Nat) : Nat → Nat
  | 0 => 0
  | n + 1 => c + 256 * msk c n
theorem by8_comp {g h : Nat → Nat} (hh : ∀ v, v < 256 → h v < 256) : ∀ n x, by8 g n (by8 h n x) = by8 (fun v => g (h v)) n x
  | 0, _ => rfl
  | n + 1, x => by
    have h1 := hh (x % 256) (Nat.mod_lt _ (by decide))
    simp only [by8]
    rw [show (h (x % 256) + 256 * by8 h n (x / 256)) % 256 = h (x % 256) by omega, show (h (x % 256) + 256 * by8 h n (x / 256)) / 256 = by8 h n (x / 256) by omega, by8_comp hh n]
theorem by8_congr {g h : Nat → Nat} (e : ∀ v, v < 256 → g v = h v) : ∀ n x, by8 g n x = by8 h n x
  | 0, _ => rfl
  | n + 1, x => by simp only [by8]; rw [e _ (Nat.mod_lt _ (by decide)), by8_congr e n]
def b1 (v : Nat) : Nat := (v / 2 &&& 85) + (v &&& 85)
def b2 (v : Nat) : Nat := (v / 4 &&& 51) + (v &&& 51)
def b3 (v : Nat) : Nat := (v / 16 + v) &&& 15
theorem fin1 : ∀ v, v < 256 → ∀ e, e < 2 → (v / 2 + 128 * e) &&& 85 = v / 2 &&& 85 := by decide +kernel
theorem fin2 : ∀ v, v < 256 → ∀ e, e < 4 → (v / 4 + 64 * e) &&& 51 = v / 4 &&& 51 := by decide +kernel
theorem step1 : ∀ n x, (x / 2 &&& msk 85 n) + (x &&& msk 85 n) = by8 b1 n x
  | 0, x => by simp [msk, by8]
  | n + 1, x => by
    have ih := step1 n (x / 256)
    have f := fin1 (x % 256) (Nat.mod_lt _ (by decide)) (x / 256 % 2) (Nat.mod_lt _ (by decide))
    simp only [msk, by8]
    rw [and_split _ _ _ (by decide), and_split _ _ _ (by decide), show x / 2 % 256 = x % 256 / 2 + 128 * (x / 256 % 2) by omega, f, show x / 2 / 256 = x / 256 / 2 by omega, ← ih]
    unfold b1
    omega
theorem step2 : ∀ n x, (x / 4 &&& msk 51 n) + (x &&& msk 51 n) = by8 b2 n x
  | 0, x => by simp [msk, by8]
  | n + 1, x => by
    have ih := step2 n (x / 256)
    have f := fin2 (x % 256) (Nat.mod_lt _ (by decide)) (x / 256 % 4) (Nat.mod_lt _ (by decide))
    simp only [msk, by8]
    rw [and_split _ _ _ (by decide), and_split _ _ _ (by decide), show x / 4 % 256 = x % 256 / 4 + 64 * (x / 256 % 4) by omega, f, show x / 4 / 256 = x / 256 / 4 by omega, ← ih]
    unfold b2
    omega
/-- Each half of each byte is at most 4. -/
def Low : Nat → Nat → Prop
  | 0, x => x = 0
  | n + 1, x => x % 16 ≤ 4 ∧ x % 256 / 16 ≤ 4 ∧ Low n (x / 256)
theorem fin3 : ∀ v, v < 256 → v % 16 ≤ 4 → v / 16 ≤ 4 → ∀ e, e < 5 → (v / 16 + v + 16 * e) % 256 &&& 15 = (v / 16 + v) &&& 15 := by decide +kernel
theorem Low.mod : ∀ {n x : Nat}, Low n x → x % 16 ≤ 4
  | 0, x, h => by rw [show x = 0 from h]; decide
  | _ + 1, _, h => h.1
theorem step3 : ∀ n x, Low n x → (x / 16 + x) &&& msk 15 n = by8 b3 n x
  | 0, x, _ => by simp [msk, by8]
  | n + 1, x, h => by
    obtain ⟨h1, h2, h3⟩ := h
    have ih := step3 n (x / 256) h3
    have h4 := h3.mod
    have f := fin3 (x % 256) (Nat.mod_lt _ (by decide)) (by omega) h2 (x / 256 % 16) (by omega)
    simp only [msk, by8]
    rw [and_split _ _ _ (by decide), ← ih]
    have e1 : (x / 16 + x) % 256 = (x % 256 / 16 + x % 256 + 16 * (x / 256 % 16)) % 256 := by omega
    have e2 : (x / 16 + x) / 256 = x / 256 / 16 + x / 256 := by omega
    rw [e1, e2, f]
    rfl
theorem fin12 : ∀ v, v < 256 → b1 v < 256 ∧ b2 (b1 v) < 256 ∧ b2 (b1 v) % 16 ≤ 4 ∧ b2 (b1 v) / 16 ≤ 4 ∧ b3 (b2 (b1 v)) ≤ 8 := by decide +kernel
theorem fin_pop : ∀ v, v < 256 → b3 (b2 (b1 v)) = pop 8 v := by decide +kernel
theorem low_by8 : ∀ n x, Low n (by8 (fun v => b2 (b1 v)) n x)
  | 0, x => rfl
  | n + 1, x => by
    have h := fin12 (x % 256) (Nat.mod_lt _ (by decide))
    simp only [by8, Low]
    refine ⟨by omega, by omega, ?_⟩
    rw [show (b2 (b1 (x % 256)) + 256 * by8 (fun v => b2 (b1 v)) n (x / 256)) / 256 = by8 (fun v => b2 (b1 v)) n (x / 256) by omega]
    exact low_by8 n _
theorem m85 : msk 85 8 = 6148914691236517205 := by decide
theorem m51 : msk 51 8 = 3689348814741910323 := by decide
theorem m15 : msk 15 8 = 1085102592571150095 := by decide
theorem oc_by8 (x : Nat) : s3 (s2 (s1 x)) = by8 (pop 8) 8 x := by
  have h1 : s1 x = by8 b1 8 x := by unfold s1; rw [← m85]; exact step1 8 x
  have h2 : s2 (by8 b1 8 x) = by8 (fun v => b2 (b1 v)) 8 x := by
    unfold s2; rw [← m51, step2]; exact by8_comp (fun v hv => (fin12 v hv).1) 8 x
  have h3 : s3 (by8 (fun v => b2 (b1 v)) 8 x) = by8 (fun v => b3 (b2 (b1 v))) 8 x := by
    unfold s3; rw [← m15, step3 8 _ (low_by8 8 x)]; exact by8_comp (fun v hv => (fin12 v hv).2.1) 8 x
  rw [h1, h2, h3]
  exact by8_congr fin_pop 8 x
theorem pop_split (n x : Nat) : pop (8 + n) x = pop 8 (x % 256) + pop n (x / 256) := by
  unfold pop
  rw [List.range_add, List.countP_append, List.countP_map]
  congr 1
  · refine List.countP_congr fun i hi => ?_
    have hi' := List.mem_range.1 hi
    have := Nat.testBit_mod_two_pow x 8 i
    rw [show (2 : Nat) ^ 8 = 256 from rfl] at this
    rw [this]; simp [hi']
  · refine List.countP_congr fun i hi => ?_
    have : (x / 2 ^ 8).testBit i = x.testBit (i + 8) := Nat.testBit_div_two_pow ..
    rw [show (2 : Nat) ^ 8 = 256 from rfl] at this
    rw [this]
    simp [Function.comp, Nat.add_comm]
theorem pop_le (n x : Nat) : pop n x ≤ n := by
  have := List.countP_le_length (p := fun i => x.testBit i) (l := List.range n)
  simpa [pop] using this
theorem sum8 (c0 c1 c2 c3 c4 c5 c6 c7 : Nat) (h0 : c0 ≤ 8) (h1 : c1 ≤ 8) (h2 : c2 ≤ 8) (h3 : c3 ≤ 8) (h4 : c4 ≤ 8) (h5 : c5 ≤ 8) (h6 : c6 ≤ 8) (h7 : c7 ≤ 8) :
    s6 (c0 + 256 * (c1 + 256 * (c2 + 256 * (c3 + 256 * (c4 + 256 * (c5 + 256 * (c6 + 256 * c7))))))) = c0 + c1 + c2 + c3 + c4 + c5 + c6 + c7 := by
  obtain ⟨t, ht⟩ : ∃ t, t = c0 + 256 * (c1 + 256 * (c2 + 256 * (c3 + 256 * (c4 + 256 * (c5 + 256 * (c6 + 256 * c7)))))) := ⟨_, rfl⟩
  rw [← ht]
  have q1 : t / 256 = c1 + 256 * (c2 + 256 * (c3 + 256 * (c4 + 256 * (c5 + 256 * (c6 + 256 * c7))))) := by omega
  obtain ⟨y, hy⟩ : ∃ y, y = t + t / 256 := ⟨_, rfl⟩
  have q2 : y = (c0 + c1) + 256 * (c1 + c2) + 65536 * ((c2 + c3) + 256 * (c3 + c4) + 65536 * (c4 + c5) + 16777216 * (c5 + c6) + 4294967296 * (c6 + c7) + 1099511627776 * c7) := by omega
  have q3 : y / 65536 = (c2 + c3) + 256 * (c3 + c4) + 65536 * (c4 + c5) + 16777216 * (c5 + c6) + 4294967296 * (c6 + c7) + 1099511627776 * c7 := by omega
  obtain ⟨z, hz⟩ : ∃ z, z = y + y / 65536 := ⟨_, rfl⟩
  have q4 : z = ((c0 + c1) + (c2 + c3) + 256 * ((c1 + c2) + (c3 + c4)) + 65536 * ((c2 + c3) + (c4 + c5)) + 16777216 * ((c3 + c4) + (c5 + c6))) + 4294967296 * ((c4 + c5) + (c6 + c7) + 256 * ((c5 + c6) + c7) + 65536 * (c6 + c7) + 16777216 * c7) := by omega
  have q5 : z / 4294967296 = (c4 + c5) + (c6 + c7) + 256 * ((c5 + c6) + c7) + 65536 * (c6 + c7) + 16777216 * c7 := by omega
  show (t + t / 256 + (t + t / 256) / 65536 + (t + t / 256 + (t + t / 256) / 65536) / 4294967296) % 128 = _
  rw [← hy, ← hz, q5]
  clear q5 q3 q1 hy hz ht q2
  omega
theorem pop_mod8 (v : Nat) : pop 8 (v % 256) = pop 8 v := by
  have := pop_split 0 v
  simp only [Nat.add_zero] at this
  rw [this]; simp [pop]
/-- OnesCount64. -/
theorem oc_pop (x : Nat) : oc x = pop 64 x := by
  unfold oc
  rw [oc_by8]
  simp only [by8, Nat.mul_zero, Nat.add_zero]
  rw [sum8 _ _ _ _ _ _ _ _ (pop_le 8 _) (pop_le 8 _) (pop_le 8 _) (pop_le 8 _) (pop_le 8 _) (pop_le 8 _) (pop_le 8 _) (pop_le 8 _)]
  rw [show (64 : Nat) = 8 + 56 from rfl, pop_split, show (56 : Nat) = 8 + 48 from rfl, pop_split, show (48 : Nat) = 8 + 40 from rfl, pop_split, show (40 : Nat) = 8 + 32 from rfl, pop_split, show (32 : Nat) = 8 + 24 from rfl, pop_split,
    show (24 : Nat) = 8 + 16 from rfl, pop_split, show (16 : Nat) = 8 + 8 from rfl, pop_split]
  simp only [pop_mod8]
  omega
end Go.Proofs.YtoaeeojnelmlnaaDoor
