/-
  The closure of a block: what it is, how it is come to, and how two blocks are compared.
-/
import Derived.Test.YtbcklcikmhpclaaDoorAlg
import Derived.Test.YtbcklcikmhpclaaDoorEq
namespace Go.Proofs.YtbcklcikmhpclaaDoor
open Go.RowKit
set_option linter.unusedVariables false
set_option linter.unusedSimpArgs false
/-- From row r one step or more lead to c. -/
inductive Plus (f : Nat → Nat) : Nat → Nat → Prop
  | one {r c : Nat} : r < 64 → c < 64 → bt f r c = true → Plus f r c
  | more {r k c : Nat} : Plus f r k → k < 64 → c < 64 → bt f k c = true → Plus f r c
open Classical in
noncomputable def closS (f : Nat → Nat) (r c : Nat) : Bool := decide (Plus f r c)
theorem closS_iff (f : Nat → Nat) (r c : Nat) : closS f r c = true ↔ Plus f r c := by unfold closS; simp
theorem Plus.lt {f : Nat → Nat} {r c : Nat} (h : Plus f r c) : r < 64 ∧ c < 64 := by
  induction h with
  | one h1 h2 _ => exact ⟨h1, h2⟩
  | more _ _ h3 _ ih => exact ⟨ih.1, h3⟩
theorem Plus.trans {f : Nat → Nat} {r k c : Nat} (h : Plus f r k) (h2 : Plus f k c) : Plus f r c := by
  induction h2 with
  | one h1 h2 h3 => exact .more h h1 h2 h3
  | more _ h4 h5 h6 ih => exact .more ih h4 h5 h6
/-- What has f and is closed under products has all that is reached. -/
theorem Plus.least {f g : Nat → Nat} (h1 : ∀ r c, r < 64 → c < 64 → bt f r c = true → bt g r c = true) (h2 : ∀ r c, r < 64 → c < 64 → mulS g g r c = true → bt g r c = true) {r c : Nat} (h : Plus f r c) : bt g r c = true := by
  induction h with
  | one a b d => exact h1 _ _ a b d
  | more p k c' d ih => exact h2 _ _ p.lt.1 c' ((mulS_iff _ _ _ _).2 ⟨_, k, ih, h1 _ _ k c' d⟩)

/-- How many bits a block has. -/
def cnt (g : Nat → Nat) : Nat := (List.range 4096).countP fun i => bt g (i / 64) (i % 64)
theorem cnt_le (g : Nat → Nat) : cnt g ≤ 4096 := by
  have := List.countP_le_length (p := fun i => bt g (i / 64) (i % 64)) (l := List.range 4096)
  simpa [cnt] using this
theorem countP_lt {α : Type} (p q : α → Bool) : ∀ l : List α, (∀ x ∈ l, p x = true → q x = true) → (∃ x ∈ l, q x = true ∧ p x = false) → l.countP p < l.countP q
  | [], _, ⟨_, h, _⟩ => by cases h
  | y :: l, h, ⟨x, hx, hq, hp⟩ => by
    have hle : l.countP p ≤ l.countP q := List.countP_mono_left fun z hz hpz => h z (by simp [hz]) hpz
    rw [List.countP_cons, List.countP_cons]
    rcases List.mem_cons.1 hx with e | hx'
    · subst e; rw [hq, hp]; simp; omega
    · have ih := countP_lt p q l (fun z hz => h z (by simp [hz])) ⟨x, hx', hq, hp⟩
      have hy := h y (by simp)
      cases hpy : p y
      · cases q y <;> simp <;> omega
      · rw [hy hpy]; simp; omega
theorem cnt_lt {g h : Nat → Nat} (hsub : ∀ r c, r < 64 → c < 64 → bt g r c = true → bt h r c = true) {r c : Nat} (hr : r < 64) (hc : c < 64) (h1 : bt h r c = true) (h0 : bt g r c = false) : cnt g < cnt h := by
  refine countP_lt _ _ _ (fun x hx hp => ?_) ⟨r * 64 + c, by simp; omega, ?_, ?_⟩
  · have := List.mem_range.1 hx
    exact hsub _ _ (by omega) (by omega) hp
  · rw [show (r * 64 + c) / 64 = r by omega, show (r * 64 + c) % 64 = c by omega]; exact h1
  · rw [show (r * 64 + c) / 64 = r by omega, show (r * 64 + c) % 64 = c by omega]; exact h0

/-- Are the first 64 rows the same? -/
def sameB (f g : Nat → Nat) : Bool := (List.range' 0 64).all fun i => ((f i : Int) == (g i : Int))
theorem forIn_first {P : Program} {α σ : Type} (w : World) (p : α → Bool) (s d : σ) (b : α → σ → Sem (ForInStep σ)) :
    ∀ l : List α, (∀ i ∈ l, (b i s).run P w = .ok (if p i then .yield s else .done d) w) → (forIn l s b).run P w = .ok (if l.all p then s else d) w
  | [], _ => by simp
  | x :: l, h => by
    rw [List.forIn_cons, Sem.run_bind, h x (by simp)]
    have ih := forIn_first w p s d b l fun i hi => h i (by simp [hi])
    cases hp : p x
    · simp [hp]
    · simp [hp, ih]
set_option maxRecDepth 100000 in
theorem eq_run (f g : Nat → Nat) (w : World) : (Op.equalIn 10000 25 (.agg (Rw f)) (.agg (Rw g))).run Tryd.prog w = .ok (sameB f g) w := by
  have hs : ∃ i, Tryd.prog.info? 23 = some i ∧ i.size = 1 := by
    have := wordSize
    cases h : Tryd.prog.info? 23 with
    | none => rw [h] at this; cases this
    | some i => rw [h] at this; exact ⟨i, rfl, by simpa using this⟩
  obtain ⟨i, hi, h1⟩ := hs
  have hsz : (sizeOf 23).run Tryd.prog w = .ok 1 w := by simp [sizeOf, typeInfo, hi, h1]
  have wd : Tryd.prog.underlying 23 = some (.int .u64) := by kernel_rfl
  show (Op.equalIn (9998 + 1 + 1) 25 (.agg (Rw f)) (.agg (Rw g))).run Tryd.prog w = .ok (sameB f g) w
  generalize 9998 = d
  unfold Op.equalIn
  simp only [Sem.run_bind, run_underlying blockType, hsz, Result.andThen_ok]
  have hl : ∀ i ∈ List.range' 0 64, i < 64 := fun i hi => by simpa using (List.mem_range'_1.1 hi).2
  simp
  rw [forIn_first w (fun i => ((f i : Int) == (g i : Int))) (none, ()) (some false, ()) _ _ (fun i hi => ?_)]
  · unfold sameB
    cases (List.range' 0 64).all fun i => ((f i : Int) == (g i : Int)) <;> rfl
  · have g1 := Rw_get f i (hl i hi)
    have g2 := Rw_get g i (hl i hi)
    have e := run_equalIn_int (P := Tryd.prog) w d 23 .u64 .u64 (f i) (g i) wd
    simp only [Sem.run_bind, part, g1, g2, e]
    cases hb : ((f i : Int) == (g i : Int)) <;> simp [Result.andThen, part, g1, g2, e, hb, Sem.run_bind]
theorem same_true {f g : Nat → Nat} (h : sameB f g = true) : ∀ i, i < 64 → f i = g i := fun i hi => by
  unfold sameB at h
  have := List.all_eq_true.1 h i (List.mem_range'_1.2 ⟨by omega, by omega⟩)
  simp at this
  omega
theorem same_false {f g : Nat → Nat} (h : sameB f g = false) : ∃ i, i < 64 ∧ f i ≠ g i := by
  unfold sameB at h
  obtain ⟨i, hi, hn⟩ := List.all_eq_false.1 h
  refine ⟨i, by have := (List.mem_range'_1.1 hi).2; omega, fun e => hn ?_⟩
  rw [e]; simp
/-- A bit that is new. -/
theorem new_bit {x y : Nat} (hx : x < 18446744073709551616) (hy : y < 18446744073709551616) (hne : x ||| y ≠ x) : ∃ c, c < 64 ∧ (x ||| y).testBit c = true ∧ x.testBit c = false := by
  refine Classical.byContradiction fun hno => hne (word_eq (Nat.or_lt_two_pow (n := 64) hx hy) hx fun c hc => ?_)
  cases h1 : x.testBit c
  · cases h2 : (x ||| y).testBit c
    · rfl
    · exact absurd ⟨c, hc, h2, h1⟩ hno
  · rw [Nat.testBit_or, h1, Bool.true_or]
end Go.Proofs.YtbcklcikmhpclaaDoor
