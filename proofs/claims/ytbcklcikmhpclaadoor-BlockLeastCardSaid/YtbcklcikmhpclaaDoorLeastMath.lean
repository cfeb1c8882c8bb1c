/-
  The law BlockLeast, walked.
-/
import Derived.Test.YtbcklcikmhpclaaDoorWithin
import Derived.Test.YtbcklcikmhpclaaDoorQuiet
import Derived.Test.YtbcklcikmhpclaaDoorAwake
namespace Go.Proofs.YtbcklcikmhpclaaDoor
open Go.RowKit
set_option linter.unusedVariables false
set_option linter.unusedSimpArgs false
theorem k_no {P : Program} {ops : Array Oper} {o : Oper} {a : Act} {C : World → Prop} {K : Act → Prop} (hw : Region.wanted o (yielded ops a.tmps) = false) (h : K (a.put o.dst undef)) :
    if Region.wanted o (yielded ops a.tmps) then o.quiet P a C K else K (a.put o.dst undef) := by
  rw [if_neg (by rw [hw]; simp)]; exact h
noncomputable abbrev clo (f : Nat → Nat) : Nat → Nat := blk (closS f)
theorem bt_clo (f : Nat → Nat) (r c : Nat) (hc : c < 64) : bt (clo f) r c = true ↔ Plus f r c := by
  rw [bt_blk _ _ _ hc, closS_iff]
theorem clo_has {f : Nat → Nat} (hf : Wf f) : withinB f (clo f) = true := (within_iff hf).2 fun r c hr hc h => (bt_clo f r c hc).2 (.one hr hc h)
theorem clo_mul (f : Nat → Nat) : withinB (prod (clo f) (clo f)) (clo f) = true := (within_iff (blk_wf _)).2 fun r c hr hc h => by
  rw [bt_prod _ _ _ _ hc, mulS_iff] at h
  obtain ⟨k, hk, h1, h2⟩ := h
  exact (bt_clo f r c hc).2 (((bt_clo f r k hk).1 h1).trans ((bt_clo f k c hc).1 h2))
theorem plus_clo {f : Nat → Nat} {r c : Nat} (h : Plus (clo f) r c) : Plus f r c := by
  induction h with
  | one h1 h2 h3 => exact (bt_clo f _ _ h2).1 h3
  | more _ h4 h5 h6 ih => exact ih.trans ((bt_clo f _ _ h5).1 h6)
theorem clo_clo (f : Nat → Nat) : Rw (clo (clo f)) = Rw (clo f) := blk_congr fun r c hr hc => by
  rw [Bool.eq_iff_iff, closS_iff, closS_iff]
  exact ⟨plus_clo, fun h => .one hr hc ((bt_clo f r c hc).2 h)⟩
theorem clo_least {f d : Nat → Nat} (hsub : ∀ r c, r < 64 → c < 64 → bt f r c = true → bt d r c = true) (h : withinB (prod d d) d = true) : withinB (clo f) d = true :=
  (within_iff (blk_wf _)).2 fun r c hr hc hb => Plus.least hsub (fun r c hr hc hm => (within_iff (blk_wf _)).1 h r c hr hc (by rw [bt_prod _ _ _ _ hc]; exact hm)) ((bt_clo f r c hc).1 hb)

/-- How many bits a word has. -/
def pop (x : Nat) : Nat := (List.range 64).countP fun c => x.testBit c
theorem pop_le (x : Nat) : pop x ≤ 64 := by
  have := List.countP_le_length (p := fun c => x.testBit c) (l := List.range 64)
  simpa [pop] using this
theorem pop_full {x : Nat} (h : 64 ≤ pop x) : ∀ c, c < 64 → x.testBit c = true := fun c hc => by
  have he : (List.range 64).countP (fun c => x.testBit c) = (List.range 64).length := by
    have := pop_le x; unfold pop at this h; simp; omega
  exact List.countP_eq_length.1 he c (by simpa using hc)
/-- Row r's reach so far, behind k passes. -/
structure Met (a : Nat → Nat) (r m k : Nat) : Prop where
  lt : m < 18446744073709551616
  has : ∀ c, c < 64 → bt a r c = true → m.testBit c = true
  only : ∀ c, c < 64 → m.testBit c = true → Plus a r c
  big : (∀ x, x < 64 → m.testBit x = true → ∀ c, c < 64 → bt a x c = true → m.testBit c = true) ∨ k ≤ pop m
/-- Within a pass that began at m0: the rows below j are done. -/
structure Pass (a : Nat → Nat) (r m0 m j : Nat) : Prop where
  lt : m < 18446744073709551616
  sup : ∀ c, m0.testBit c = true → m.testBit c = true
  only : ∀ c, c < 64 → m.testBit c = true → Plus a r c
  did : ∀ x, x < j → m0.testBit x = true → ∀ c, c < 64 → bt a x c = true → m.testBit c = true
theorem reach_in {a : Nat → Nat} {r m : Nat} (has : ∀ c, c < 64 → bt a r c = true → m.testBit c = true) (hcl : ∀ x, x < 64 → m.testBit x = true → ∀ c, c < 64 → bt a x c = true → m.testBit c = true)
    {r' c' : Nat} (hp : Plus a r' c') : r' = r → m.testBit c' = true := by
  induction hp with
  | one a1 a2 a3 => intro e; subst e; exact has _ a2 a3
  | more p hk' hc' a4 ih => intro e; exact hcl _ hk' (ih e) _ hc' a4
theorem Met.start {a : Nat → Nat} (ha : Wf a) {r : Nat} (hr : r < 64) : Met a r (a r) 0 := ⟨ha r hr, fun _ _ h => h, fun c hc h => .one hr hc h, .inr (Nat.zero_le _)⟩
theorem Met.pass {a : Nat → Nat} {r m k : Nat} (h : Met a r m k) : Pass a r m m 0 := ⟨h.lt, fun _ h => h, h.only, fun _ h => absurd h (Nat.not_lt_zero _)⟩
theorem Pass.hit {a : Nat → Nat} (ha : Wf a) {r m0 m j : Nat} (h : Pass a r m0 m j) (hj : j < 64) (hb : m.testBit j = true) : Pass a r m0 (m ||| a j) (j + 1) := by
  refine ⟨Nat.or_lt_two_pow (n := 64) h.lt (ha j hj), fun c hc => by rw [Nat.testBit_or, h.sup c hc, Bool.true_or], fun c hc h1 => ?_, fun x hx h0 c hc h1 => ?_⟩
  · rw [Nat.testBit_or, Bool.or_eq_true] at h1
    rcases h1 with h1 | h1
    · exact h.only c hc h1
    · exact .more (h.only j hj hb) hj hc h1
  · rw [Nat.testBit_or]
    rcases Nat.lt_succ_iff_lt_or_eq.1 hx with e | e
    · rw [h.did x e h0 c hc h1, Bool.true_or]
    · subst e; rw [show (a x).testBit c = true from h1, Bool.or_true]
theorem Pass.miss {a : Nat → Nat} {r m0 m j : Nat} (h : Pass a r m0 m j) (hb : m.testBit j = false) : Pass a r m0 m (j + 1) := by
  refine ⟨h.lt, h.sup, h.only, fun x hx h0 c hc h1 => ?_⟩
  rcases Nat.lt_succ_iff_lt_or_eq.1 hx with e | e
  · exact h.did x e h0 c hc h1
  · subst e; rw [h.sup x h0] at hb; cases hb
theorem Pass.done {a : Nat → Nat} {r m0 m k : Nat} (h0 : Met a r m0 k) (h : Pass a r m0 m 64) : Met a r m (k + 1) := by
  refine ⟨h.lt, fun c hc hb => h.sup c (h0.has c hc hb), h.only, ?_⟩
  by_cases e : ∀ c, c < 64 → m.testBit c = true → m0.testBit c = true
  · exact .inl fun x hx hb c hc h1 => h.did x hx (e x hx hb) c hc h1
  · refine .inr ?_
    have : ∃ c, c < 64 ∧ m.testBit c = true ∧ m0.testBit c = false := by
      refine Classical.byContradiction fun hno => e fun c hc hb => ?_
      cases h2 : m0.testBit c
      · exact absurd ⟨c, hc, hb, h2⟩ hno
      · rfl
    obtain ⟨c, hc, h1, h2⟩ := this
    have hlt : pop m0 < pop m := countP_lt _ _ _ (fun x _ hx => h.sup x hx) ⟨c, by simpa using hc, h1, h2⟩
    rcases h0.big with hcl | hk
    · exfalso
      have := h.only c hc h1
      rw [reach_in h0.has hcl this rfl] at h2; cases h2
    · omega
theorem Met.row {a : Nat → Nat} {r m : Nat} (hr : r < 64) (h : Met a r m 64) : m = clo a r := by
  refine word_eq h.lt (blk_wf _ r hr) fun c hc => ?_
  rw [blk_bit _ _ _ hc, Bool.eq_iff_iff, closS_iff]
  refine ⟨h.only c hc, fun hp => ?_⟩
  rcases h.big with hcl | hk
  · exact reach_in h.has hcl hp rfl
  · exact pop_full hk c hc
end Go.Proofs.YtbcklcikmhpclaaDoor
