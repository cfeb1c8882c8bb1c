/-
  MarksBack: the texts that it makes, and their marks.
-/
import Derived.Test.YtogobjokjpddbaaText
import Derived.Test.YtogobjokjpddbaaLay
namespace Go.Proofs.Ytogobjokjpddbaa
open Go.RowKit
set_option linter.unusedVariables false
set_option linter.unusedSimpArgs false
/-- The marks of a text by their numbers. -/
def FM (s : ByteArray) : Nat → Int × Int × ByteArray := fn (txt s (ml s))
def tx (s : ByteArray) (k : Nat) : ByteArray := (FM s k).2.2
theorem FM_at {s : ByteArray} {k : Nat} {x : Nat × Nat × Nat} (h : (ml s)[k]? = some x) : FM s k = ((x.1 : Int), (x.2.1 : Int), s.extract x.2.1 x.2.2) := by
  unfold FM fn
  have : (txt s (ml s)).getD k (0, 0, ⟨#[]⟩) = (x.1, x.2.1, s.extract x.2.1 x.2.2) := by
    rw [List.getD_eq_getElem?_getD]
    unfold txt
    rw [List.getElem?_map, h]
    rfl
  rw [this]
theorem good_all {s : ByteArray} : ∀ (l : List (Nat × Nat × Nat)) (i : Nat), i ≤ s.size → Good (byt s) s.size i l → (∀ x ∈ l, x.2.1 < s.size ∧ x.1 = kindN (byt s x.2.1) ∧ x.1 ≠ 0 ∧ x.2.2 = mend (byt s) s.size x.2.1) ∧
    (l.map fun x => (s.extract x.2.1 x.2.2).size).sum + i ≤ s.size
  | [], i, hi, _ => ⟨fun x h => (by cases h), by simpa using hi⟩
  | x :: l, i, hi, h => by
    obtain ⟨h1, h2, h3, h4, h5, h6⟩ := h
    have hle : x.2.2 ≤ s.size := by rw [h5]; exact mend_le _ _ h2
    obtain ⟨g1, g2⟩ := good_all l x.2.2 hle h6
    refine ⟨fun y hy => ?_, ?_⟩
    · rcases List.mem_cons.1 hy with rfl | hy
      · exact ⟨h2, h3, h4, h5⟩
      · exact g1 y hy
    · rw [List.map_cons, List.sum_cons, ByteArray.size_extract]
      have := run_ge (byt s) s.size blankN i
      rw [← h1] at this
      have := mend_gt (byt s) s.size x.2.1
      rw [← h5] at this
      omega
theorem ml_each {s : ByteArray} {k : Nat} (h : k < (ml s).length) : kd (tx s k) ≠ 0 ∧ (kd (tx s k) : Int) = (FM s k).1 ∧ 0 ≤ (FM s k).2.1 ∧ (FM s k).2.1 < s.size ∧ (tx s k).size ≤ s.size := by
  obtain ⟨x, hx⟩ : ∃ x, (ml s)[k]? = some x := ⟨_, List.getElem?_eq_getElem h⟩
  obtain ⟨h1, h2, h3, h4⟩ := (good_all (ml s) 0 (Nat.zero_le _) (ml_good s)).1 x (List.mem_of_getElem? hx)
  unfold tx
  rw [FM_at hx]
  dsimp only
  have hk : kd (s.extract x.2.1 x.2.2) = x.1 := by rw [h4, kd_ext h1 (by rw [← h2]; exact h3), h2]
  refine ⟨by rw [hk]; exact h3, by rw [hk], by omega, by omega, by rw [ByteArray.size_extract]; omega⟩
theorem texts_sum {s : ByteArray} : ((List.range (ml s).length).map fun k => (tx s k).size).sum ≤ s.size := by
  have h := (good_all (ml s) 0 (Nat.zero_le _) (ml_good s)).2
  have e : ((List.range (ml s).length).map fun k => (tx s k).size) = (ml s).map fun x => (s.extract x.2.1 x.2.2).size := by
    apply List.ext_getElem?
    intro k
    rw [List.getElem?_map, List.getElem?_map]
    by_cases hk : k < (ml s).length
    · have hx : (ml s)[k]? = some (ml s)[k] := List.getElem?_eq_getElem hk
      rw [hx, List.getElem?_range hk]
      simp only [Option.map_some]
      unfold tx
      rw [FM_at hx]
    · rw [List.getElem?_eq_none (by simpa using hk), List.getElem?_eq_none (by omega)]
      rfl
  rw [e]
  omega
theorem sum_succ (f : Nat → Nat) (n : Nat) : ((List.range (n + 1)).map f).sum = ((List.range n).map f).sum + f n := by
  rw [List.range_succ, List.map_append, List.sum_append]; simp
theorem lay_total (gap t : Nat → ByteArray) (g : Nat) (hg : ∀ k, (gap k).size ≤ g) : ∀ n, (lay gap t n).size ≤ n * g + ((List.range n).map fun k => (t k).size).sum
  | 0 => Nat.zero_le _
  | n + 1 => by
    have ih := lay_total gap t g hg n
    have := hg n
    rw [lay_size, sum_succ, Nat.succ_mul]
    omega
def gap1 (k : Nat) : ByteArray := if k = 0 then ⟨#[]⟩ else ⟨#[32]⟩
theorem joined_lay (F : Nat → Int × Int × ByteArray) : ∀ n, joined F n = lay gap1 (fun k => (F k).2.2) n
  | 0 => rfl
  | n + 1 => by
    have ih := joined_lay F n
    by_cases h : 0 < n
    · rw [joined_more F n h, lay_succ, ← ih]
      unfold gap1
      rw [if_neg (by omega)]
    · have e : n = 0 := by omega
      subst e
      rw [joined_one F 0 h, lay_succ, ← ih]
      unfold gap1
      rw [if_pos rfl, ← app_none]
theorem good_gap1 (s : ByteArray) : Good2 (ml s).length gap1 (tx s) := by
  refine ⟨fun k _ m hm => ?_, fun k _ h0 => ?_, fun k hk => (ml_each hk).1⟩
  · unfold gap1 at *
    split at hm
    · exact absurd hm (Nat.not_lt_zero _)
    · rw [if_neg (by assumption)]
      have : m = 0 := by have : (⟨#[32]⟩ : ByteArray).size = 1 := rfl; omega
      subst this
      rfl
  · unfold gap1
    rw [if_neg (by omega)]
    decide
/-- The blank byte that a number asks for. -/
def bb (x : Nat) : UInt8 := if x % 4 = 0 then 32 else if x % 4 = 1 then 9 else if x % 4 = 2 then 10 else 13
def bw (M : Nat → Nat) : Nat → ByteArray
  | 0 => ⟨#[32]⟩
  | j + 1 => bw M j ++ ⟨#[bb (M j)]⟩
theorem bw_size (M : Nat → Nat) : ∀ j, (bw M j).size = j + 1
  | 0 => rfl
  | j + 1 => by unfold bw; rw [ByteArray.size_append, bw_size M j]; rfl
theorem bb_blank (x : Nat) : blankN (bb x).toNat = true := by unfold bb; (repeat' split) <;> rfl
theorem bw_blank (M : Nat → Nat) : ∀ j m, m < (bw M j).size → blankN (byt (bw M j) m) = true
  | 0, m, h => by
    have : m = 0 := by have : (bw M 0).size = 1 := rfl; omega
    subst this
    rfl
  | j + 1, m, h => by
    have hs := bw_size M j
    rw [bw_size] at h
    unfold bw
    by_cases hm : m < (bw M j).size
    · rw [byt_left hm]; exact bw_blank M j m hm
    · have e : m = (bw M j).size + 0 := by omega
      rw [e, byt_right]
      exact bb_blank (M j)
def gap2 (M : Nat → Nat) (L : Nat) (_ : Nat) : ByteArray := bw M (min L 5)
theorem good_gap2 (s : ByteArray) (M : Nat → Nat) (L : Nat) : Good2 (ml s).length (gap2 M L) (tx s) :=
  ⟨fun k _ m hm => bw_blank M _ m hm, fun k _ _ => by unfold gap2; rw [bw_size]; omega, fun k hk => (ml_each hk).1⟩
/-- The marks of a text that was laid out of another one's marks. -/
theorem FM_lay {s : ByteArray} {gap : Nat → ByteArray} (G : Good2 (ml s).length gap (tx s)) : (ml (lay gap (tx s) (ml s).length)).length = (ml s).length ∧ stopAt (lay gap (tx s) (ml s).length) = (lay gap (tx s) (ml s).length).size ∧
    ∀ k, k < (ml s).length → (FM (lay gap (tx s) (ml s).length) k).1 = (FM s k).1 ∧ 0 ≤ (FM (lay gap (tx s) (ml s).length) k).2.1 ∧ (FM (lay gap (tx s) (ml s).length) k).2.2 = (FM s k).2.2 := by
  obtain ⟨h1, h2⟩ := ml_lay G
  refine ⟨by rw [h1]; simp, h2, fun k hk => ?_⟩
  have hx : (ml (lay gap (tx s) (ml s).length))[k]? = some (lm gap (tx s) k) := by rw [h1, List.getElem?_map, List.getElem?_range hk]; rfl
  rw [FM_at hx, lay_ext hk]
  exact ⟨(ml_each hk).2.1, by dsimp only; omega, rfl⟩
theorem okAll_of {F : Nat → Int × Int × ByteArray} : ∀ n, (∀ k, k < n → okB F k = true) → okAll F n = true
  | 0, _ => rfl
  | n + 1, h => by rw [okAll_succ, okAll_of n (fun k hk => h k (by omega)), h n (by omega)]; rfl
theorem ok_FM {s : ByteArray} {F : Nat → Int × Int × ByteArray} (h : ∀ k, k < (ml s).length → (F k).1 = (FM s k).1 ∧ (F k).2.2 = (FM s k).2.2) : okAll F (ml s).length = true :=
  okAll_of _ fun k hk => by
    obtain ⟨h1, h2⟩ := h k hk
    obtain ⟨k1, k2, _⟩ := ml_each hk
    unfold okB
    unfold tx at k1 k2
    rw [h1, h2, ← k2]
    simpa using k1
theorem joined_same {F G : Nat → Int × Int × ByteArray} {n : Nat} (h : ∀ k, k < n → (F k).2.2 = (G k).2.2) : joined F n = joined G n := by
  have : texts F n = texts G n := by
    unfold texts
    apply List.map_congr_left
    intro k hk
    exact h k (List.mem_range.1 hk)
  unfold joined
  rw [this]
theorem bits_and3' : ∀ a : Fin 256, bits .and .u8 (a.val : Int) 3 = ((a.val % 4 : Nat) : Int) := by decide +kernel
theorem bits_and3 (a : Nat) (h : a < 256) : bits .and .u8 (a : Int) 3 = ((a % 4 : Nat) : Int) := bits_and3' ⟨a, h⟩
/-- v is a slice of L bytes in memory. -/
def SlB (w : World) (v : Value) (L : Nat) (M : Nat → Nat) : Prop :=
  ∃ A cap, v = .slice A L cap ∧ (∀ j, j < L → M j < 256) ∧ (0 < L → ∃ b off, A = some ⟨b, off, none⟩ ∧ b < w.heap.size ∧ ∀ j, j < L → w.cell? ⟨b, off + j, none⟩ = some (.int .u8 (M j)))
end Go.Proofs.Ytogobjokjpddbaa
