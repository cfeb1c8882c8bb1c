/-
  Chain of some matrices of one side; ProductRing walked.
-/
import Derived.Test.YtkobbcmndneajaaDoorQPAwake
namespace Go.Proofs.YtkobbcmndneajaaDoor
open Go.RowKit Go.Shelf
set_option linter.unusedVariables false
set_option linter.unusedSimpArgs false
/-- The product of all: the first one times the next ones. -/
def chainM (Ms : Nat → Nat → Nat → Bool) : Nat → Nat → Nat → Bool
  | 0 => Ms 0
  | k + 1 => mulM (chainM Ms k) (Ms (k + 1))
section
set_option maxHeartbeats 8000000
set_option maxRecDepth 100000
theorem chain_yes (w : World) (g off n cap : Nat) (hn1 : 1 ≤ n) (hn : n ≤ 1000000) (hcap : n ≤ cap) (side : Nat) (Bs : Nat → Nat) (Fs : Nat → Nat → Prop) (Ms : Nat → Nat → Nat → Bool) (hg : g < w.heap.size) (hc : ∀ k, k < n → w.cell? ⟨g, off + k, none⟩ = some (.pointer (some ⟨Bs k, 0, none⟩))) (hs : ∀ k, k < n → Mx w (Bs k) (Fs k) side (Ms k)) (hT : Tab w) :
    Calls Tryd.prog 30 #[.slice (some ⟨g, off, none⟩) n cap] w fun e w' => ∃ B', e = .returned (.tuple #[.pointer (some ⟨B', 0, none⟩), .int .i64 0]) ∧ ∃ F', Mx w' B' F' side (chainM Ms (n - 1)) ∧ (∀ k, F' k → w.heap.size ≤ k) ∧ Far (fun _ => False) w w' := by
  have hsd := (hs 0 (by omega)).sides
  have FT := fit_any w g off n cap hn (fun k => .pointer (some ⟨Bs k, 0, none⟩)) (fun _ => side) hg hc (fun k hk => (hs k hk).has)
  rw [fitE_ok (fun k _ => by omega) (fun k _ => rfl)] at FT
  have h0i : (0 : Int) < (n : Int) := by omega
  have hn0 : ((n : Int) == 0) = false := by simp; omega
  have hc' := Lib.hid hc
  have hs' := Lib.hid hs
  clear hc hs
  go_enter Tryd.func30, Tryd.ntmps30
  go_wp2_with fail
  refine FT.mono ?_
  rintro e w1 ⟨rfl, hf1⟩
  have hf1' := Lib.hid hf1
  have c0 : w1.cell? ⟨g, off, none⟩ = some (.pointer (some ⟨Bs 0, 0, none⟩)) := (hf1.cell hg).trans (by have := hc'.out 0 (by omega); rw [Nat.add_zero] at this; exact this)
  have CP := qcopy_any ((hs'.out 0 (by omega)).still hf1)
  obtain ⟨b0, hb0⟩ : ∃ b, Bs 0 = b := ⟨_, rfl⟩
  rw [hb0] at c0 CP
  clear FT hf1 hb0
  go_wp2_with fail
  refine CP.mono ?_
  rintro e w2 ⟨Bc, rfl, Fc, hX, hlo, hf2⟩
  have hX' := Lib.hid hX
  have hlo' := Lib.hid (fun k hk => Nat.le_trans hf1'.out.size (hlo k hk) : ∀ k, Fc k → w.heap.size ≤ k)
  have hf2' := Lib.hid (hf1'.out.then hf2)
  have h1i : (1 : Int) ≤ (n : Int) := by omega
  have h1c : (1 : Int) ≤ (cap : Int) := by omega
  have hnc : (n : Int) ≤ (cap : Int) := by omega
  clear CP hX hlo hf2 c0
  by_cases hone : n = 1
  · subst hone
    go_wp2_with fail
    all_goals (go_loopw [5, 7, 23] (fun cv _ iv wr => cv = .pointer (some ⟨Bc, 0, none⟩) ∧ iv = .int .i64 0 ∧ wr = w2) (fun _ _ _ _ => 0))
    all_goals (try exact ⟨rfl, rfl, rfl⟩)
    all_goals (obtain ⟨rfl, rfl, rfl⟩ := hrel)
    all_goals (go_wp2_with fail)
    all_goals go_ret2
    all_goals exact ⟨_, rfl, Fc, hX'.out, hlo'.out, hf2'.out⟩
  · have hcne : ¬ ((cap : Int) = 1) := by omega
    have hcn2 : ¬ (cap = 1) := by omega
    have hnm : ((n : Int) - 1) = ((n - 1 : Nat) : Int) := by omega
    go_wp2_with fail
    go_loopw [5, 7, 23] (fun cv _ iv wr => ∃ (k Bk' : Nat) (F : Nat → Prop), k ≤ n - 1 ∧ iv = .int .i64 (k : Nat) ∧ cv = .pointer (some ⟨Bk', 0, none⟩) ∧ Mx wr Bk' F side (chainM Ms k) ∧ (∀ q, F q → w.heap.size ≤ q) ∧ Far (fun _ => False) w wr) (fun _ _ iv _ => n - (intOf iv).toNat)
    case atStart => exact ⟨0, Bc, Fc, Nat.zero_le _, rfl, rfl, hX'.out, hlo'.out, hf2'.out⟩
    case round =>
      clear hX' hlo' hf2'
      obtain ⟨k, B, F, hk, rfl, rfl, hX, hlo, hf⟩ := hrel
      by_cases hlt : k < n - 1
      · have hki : (k : Int) < (n : Int) - 1 := by omega
        have hki2 : (k : Int) < ((n - 1 : Nat) : Int) := by omega
        have c1 : wr.cell? ⟨g, off + 1 + k, none⟩ = some (.pointer (some ⟨Bs (k + 1), 0, none⟩)) := (hf.cell hg).trans (by have := hc'.out (k + 1) (by omega); rw [show off + (k + 1) = off + 1 + k by omega] at this; exact this)
        have ML := pmul_any hX ((hs'.out (k + 1) (by omega)).still hf) (hT.still hf)
        obtain ⟨b1, hb1⟩ : ∃ b, Bs (k + 1) = b := ⟨_, rfl⟩
        rw [hb1] at c1 ML
        have hf' := Lib.hid hf
        clear hX hlo hf hb1
        go_wp2_with fail
        refine ML.mono ?_
        rintro e w5 ⟨B', rfl, F', hX', hlo', hf5⟩
        have hX5 := Lib.hid (show Mx w5 B' F' side (chainM Ms (k + 1)) from hX')
        have hlo5 := Lib.hid (fun q hq => Nat.le_trans hf'.out.size (hlo' q hq) : ∀ q, F' q → w.heap.size ≤ q)
        have hf5' := Lib.hid (hf'.out.then hf5)
        clear ML hX' hlo' hf5 c1
        go_wp2_with fail
        go_roundw
        case rel => exact ⟨k + 1, B', F', by omega, by go_num, rfl, hX5.out, hlo5.out, hf5'.out⟩
        case measure => simp [intOf]; omega
      · have hke : k = n - 1 := by omega
        have hki : ¬ (k : Int) < (n : Int) - 1 := by omega
        have hki2 : ¬ (k : Int) < ((n - 1 : Nat) : Int) := by omega
        have hX' := Lib.hid (show Mx wr B F side (chainM Ms (n - 1)) by rw [← hke]; exact hX)
        have hlo' := Lib.hid hlo
        have hf' := Lib.hid hf
        have hke' := Lib.hid hke
        clear hX hlo hf hke
        go_wp2_with fail
        go_ret2
        exact ⟨_, rfl, F, hX'.out, hlo'.out, hf'.out⟩
end
/-! ### The ring's laws -/
theorem mul_assoc' {A B C : Nat → Nat → Bool} {side : Nat} (hs : side ≤ 1024) (ha : ∀ r c, A r c = true → r < side ∧ c < side) (hb : ∀ r c, B r c = true → r < side ∧ c < side) : ∀ r c, mulM (mulM A B) C r c = mulM A (mulM B C) r c := fun r c => by
  have h1 := mulM_iff (A := mulM A B) (B := C) (r := r) (c := c) hs (mulM_within hs ha hb)
  have h2 := mulM_iff (A := A) (B := mulM B C) (r := r) (c := c) hs ha
  rw [Bool.eq_iff_iff, h1, h2]
  constructor
  · rintro ⟨t, h3, h4⟩
    obtain ⟨u, h5, h6⟩ := (mulM_iff hs ha).1 h3
    exact ⟨u, h5, (mulM_iff hs hb).2 ⟨t, h6, h4⟩⟩
  · rintro ⟨t, h3, h4⟩
    obtain ⟨u, h5, h6⟩ := (mulM_iff hs hb).1 h4
    exact ⟨u, (mulM_iff hs ha).2 ⟨t, h3, h5⟩, h6⟩
theorem oneM_within (side : Nat) : ∀ r c, oneM side r c = true → r < side ∧ c < side := fun r c h => by
  unfold oneM at h
  simp at h
  omega
theorem oneM_iff {side r c : Nat} : oneM side r c = true ↔ r = c ∧ r < side := by unfold oneM; simp
theorem one_mul' {A : Nat → Nat → Bool} {side : Nat} (hs : side ≤ 1024) (ha : ∀ r c, A r c = true → r < side ∧ c < side) : ∀ r c, mulM (oneM side) A r c = A r c := fun r c => by
  have h1 := mulM_iff (A := oneM side) (B := A) (r := r) (c := c) hs (oneM_within side)
  rw [Bool.eq_iff_iff, h1]
  constructor
  · rintro ⟨t, h3, h4⟩
    obtain ⟨rfl, _⟩ := oneM_iff.1 h3
    exact h4
  · intro h
    exact ⟨r, oneM_iff.2 ⟨rfl, (ha _ _ h).1⟩, h⟩
theorem mul_one' {A : Nat → Nat → Bool} {side : Nat} (hs : side ≤ 1024) (ha : ∀ r c, A r c = true → r < side ∧ c < side) : ∀ r c, mulM A (oneM side) r c = A r c := fun r c => by
  have h1 := mulM_iff (A := A) (B := oneM side) (r := r) (c := c) hs ha
  rw [Bool.eq_iff_iff, h1]
  constructor
  · rintro ⟨t, h3, h4⟩
    obtain ⟨rfl, _⟩ := oneM_iff.1 h4
    exact h3
  · intro h
    exact ⟨c, h, oneM_iff.2 ⟨rfl, (ha _ _ h).2⟩⟩
theorem mul_join' {A B C : Nat → Nat → Bool} {side : Nat} (hs : side ≤ 1024) (ha : ∀ r c, A r c = true → r < side ∧ c < side) : ∀ r c, mulM A (joinM B C) r c = joinM (mulM A B) (mulM A C) r c := fun r c => by
  have h1 := mulM_iff (A := A) (B := joinM B C) (r := r) (c := c) hs ha
  have h2 := mulM_iff (A := A) (B := B) (r := r) (c := c) hs ha
  have h3 := mulM_iff (A := A) (B := C) (r := r) (c := c) hs ha
  have h4 : joinM (mulM A B) (mulM A C) r c = true ↔ mulM A B r c = true ∨ mulM A C r c = true := by unfold joinM; exact Bool.or_eq_true_iff
  rw [Bool.eq_iff_iff, h1, h4, h2, h3]
  constructor
  · rintro ⟨t, h5, h6⟩
    unfold joinM at h6
    rcases Bool.or_eq_true_iff.1 h6 with h | h
    · exact .inl ⟨t, h5, h⟩
    · exact .inr ⟨t, h5, h⟩
  · rintro (⟨t, h5, h6⟩ | ⟨t, h5, h6⟩)
    · exact ⟨t, h5, by unfold joinM; rw [h6]; rfl⟩
    · exact ⟨t, h5, by unfold joinM; rw [h6, Bool.or_true]⟩
end Go.Proofs.YtkobbcmndneajaaDoor
