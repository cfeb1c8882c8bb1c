/-
  The document's line of a command against what Check answers.
-/
import Derived.Test.YtjmgheogpglpnaaDoorLineM30
namespace Go.Proofs.YtjmgheogpglpnaaDoor
open Go.RowKit
set_option linter.unusedVariables false
set_option linter.unusedSimpArgs false
theorem verb_word {v : Nat} (h1 : 1 ≤ v) (h2 : v ≤ 10) : verbOf (wordV v) = v := by
  have := verb_hit (v - 1) (by omega)
  rwa [show v - 1 + 1 = v by omega] at this
theorem word_clean {v : Nat} (h1 : 1 ≤ v) (h2 : v ≤ 10) : okW (wordV v) := by
  have : v = 1 ∨ v = 2 ∨ v = 3 ∨ v = 4 ∨ v = 5 ∨ v = 6 ∨ v = 7 ∨ v = 8 ∨ v = 9 ∨ v = 10 := by omega
  rcases this with rfl | rfl | rfl | rfl | rfl | rfl | rfl | rfl | rfl | rfl <;> decide
theorem line_good {c : CI} {s : Tx} (h : lineC c = (s, true)) : s = writeF c ∧ ∃ d, parseF (writeF c) = .inr d ∧ upC d = c := by
  unfold lineC at h
  by_cases hv : 1 ≤ c.v ∧ c.v ≤ 10
  rotate_left
  · rw [if_neg hv] at h; cases h
  rw [if_pos hv] at h
  obtain ⟨cv, ch, cn, cm, ct⟩ := c
  dsimp only at hv h
  obtain ⟨v, rfl⟩ : ∃ v : Nat, cv = (v : Int) := ⟨cv.toNat, by omega⟩
  have hv1 : 1 ≤ v := by omega
  have hv2 : v ≤ 10 := by omega
  rw [Int.toNat_natCast] at h
  have hwc := word_clean hv1 hv2
  by_cases h2 : (v : Int) ≤ 2
  · rw [if_pos h2] at h
    simp only [Prod.mk.injEq, Bool.and_eq_true, decide_eq_true_eq] at h
    obtain ⟨rfl, ⟨rfl, hn⟩, hm⟩ := h
    obtain rfl := List.eq_nil_of_length_eq_zero hn
    obtain rfl := List.eq_nil_of_length_eq_zero hm
    have hw : writeF ⟨(v : Int), 0, [], [], ct⟩ = wordV v ++ 32 :: ct := by
      unfold writeF
      rw [if_pos (by exact hv)]
      show joinW (wordV v :: tailF v _) = _
      unfold tailF
      rw [if_pos (by omega)]
      simp [joinW]
    refine ⟨hw.symm, { cm0 with v := v, text := ct }, ?_, rfl⟩
    rw [hw, parse_ref, refF_cons (splitW_yes hwc.2), verb_word hv1 hv2]
    unfold refV
    rw [if_neg (by omega), if_pos (by omega), if_neg (splitW_ne _)]
    congr 2
    simp
  · rw [if_neg h2] at h
    cases hl : lineL (formV v) ⟨(v : Int), ch, cn, cm, ct⟩ ⟨wordV v, 0, 0, 0⟩ with
    | none => rw [hl] at h; cases h
    | some y =>
      rw [hl] at h
      simp only [Prod.mk.injEq] at h
      obtain ⟨rfl, hf⟩ := h
      unfold fitL at hf
      simp only [Bool.and_eq_true, decide_eq_true_eq] at hf
      obtain ⟨⟨⟨f1, f2⟩, f3⟩, f4⟩ := hf
      obtain ⟨xs, e, r0, r1, r2, r3, r4, r5, r6, r7, r8, r9⟩ := line_run _ (formV v) ⟨wordV v, 0, 0, 0⟩ y [wordV v] { cm0 with v := v } hl (by simp) (by simp [joinW]) rfl (Nat.zero_le _) rfl (Nat.zero_le _) rfl
      dsimp only at f1 f2 f3 f4 r3 r5
      rw [f2, List.take_length] at r3
      rw [f3, List.take_length] at r5
      have hu : upC e = ⟨(v : Int), ch, cn, cm, ct⟩ := by
        unfold upC
        rw [r3, r5, r7, f4, r8, r9, f1]
        rfl
      have hp : parseF y.s = .inr e := by
        rw [parse_ref, r2]
        have hsp : splitW (joinW ([wordV v] ++ xs)) = wordV v :: xs := split_join (by simp) (by
          intro w hw
          rcases List.mem_cons.1 hw with rfl | hw
          · exact hwc.2
          · exact (r1 w hw).2)
        rw [refF_cons hsp, verb_word hv1 hv2]
        unfold refV
        rw [if_neg (by omega), if_neg (by omega), r0]
      have hw := write_again hp
      rw [hu] at hw
      exact ⟨hw.symm, e, by rw [hw]; exact hp, hu⟩
theorem pre_self {α : Type} (l : List α) : l <+: l := List.prefix_rfl
theorem line_bad {c : CI} (h : (lineC c).2 = false) : ∀ d, parseF (writeF c) = .inr d → upC d ≠ c := by
  intro d hp hu
  have hns := parseF_nums (writeF c)
  rw [hp] at hns
  change ∀ n ∈ d.nums, n < 1000000000 at hns
  rw [parse_ref] at hp
  obtain ⟨x0, xs, hsp⟩ : ∃ x0 xs, splitW (writeF c) = x0 :: xs := by
    cases h : splitW (writeF c) with
    | nil => exact absurd h (splitW_ne _)
    | cons a b => exact ⟨a, b, rfl⟩
  have hcl := splitW_clean (writeF c)
  rw [hsp] at hcl
  rw [refF_cons hsp] at hp
  have hv10 := verbOf_le x0
  obtain ⟨v, hv⟩ : ∃ v, v = verbOf x0 := ⟨_, rfl⟩
  rw [← hv] at hp hv10
  unfold refV at hp
  by_cases h0 : v = 0
  · rw [if_pos h0] at hp; cases hp
  rw [if_neg h0] at hp
  unfold lineC at h
  by_cases h2 : v ≤ 2
  · rw [if_pos h2] at hp
    split at hp
    · cases hp
    · injection hp with hp
      subst hp
      rw [← hu] at h
      rw [if_pos (by show 1 ≤ (v : Int) ∧ (v : Int) ≤ 10; omega), if_pos (by show (v : Int) ≤ 2; omega)] at h
      change (decide ((0 : Int) = 0) && decide ((0 : Nat) = 0) && decide ((0 : Nat) = 0)) = false at h
      exact absurd h (by decide)
  · rw [if_neg h2] at hp
    split at hp
    · cases hp
    rename_i d' hr
    injection hp with hp
    subst hp
    have cn : d'.names = c.names := by rw [← hu]; rfl
    have cm : (d'.nums.map fun n : Nat => (n : Int)) = c.nums := by rw [← hu]; rfl
    have ch : (d'.how : Int) = c.how := by rw [← hu]; rfl
    have ct : d'.text = c.text := by rw [← hu]; rfl
    have cv : (d'.v : Int) = c.v := by rw [← hu]; rfl
    have hw : ∀ w ∈ xs, (32 : UInt8) ∉ w := fun w hw => hcl w (List.mem_cons_of_mem _ hw)
    have key : ∃ y, lineL (formV v) c ⟨wordV v, 0, 0, 0⟩ = some y ∧ y.a = c.names.length ∧ y.b = c.nums.length ∧ y.h = c.how ∧ d'.v = v ∧ d'.text = [] := by
      by_cases h5 : v = 5
      · subst h5
        have e5 : formV 5 = [.h, .n] := rfl
        rw [e5] at hr ⊢
        obtain ⟨w, ys, d1, rfl, s, hr⟩ := run_cons hr
        have hne : w ≠ [] := by
          intro e0
          unfold stepL at s
          rw [if_pos e0] at s; cases s
        obtain ⟨n, hn, hd1⟩ := step_h s
        subst hd1
        have hwc := hw w (List.mem_cons_self ..)
        obtain ⟨y, r0, r1, r2, r3, r4, r5, r6, _, _⟩ := run_line c [.n] ys _ d' (nextL .h c ⟨wordV 5, 0, 0, 0⟩) (by decide) hr (fun w hw' => hw w (List.mem_cons_of_mem _ hw')) (by rw [cn]; exact pre_self _) (by rw [cm]; exact pre_self _) hns rfl rfl
        have hwl : wordL .h c ⟨wordV 5, 0, 0, 0⟩ = w := by
          show hwT c.how = w
          rw [← ch, r4]; exact hn
        refine ⟨y, ?_, by rw [r1, cn], by rw [r2, ← cm]; simp, r3, r5, r6⟩
        unfold lineL
        rw [if_pos (by rw [hwl]; exact ⟨hne, hwc⟩)]
        exact r0
      · have hnh : Lt.h ∉ formV v := by
          unfold formV
          repeat' split
          all_goals first | decide | omega
        obtain ⟨y, r0, r1, r2, r3, r4, r5, r6, _, _⟩ := run_line c (formV v) xs _ d' ⟨wordV v, 0, 0, 0⟩ hnh hr hw (by rw [cn]; exact pre_self _) (by rw [cm]; exact pre_self _) hns rfl rfl
        refine ⟨y, r0, by rw [r1, cn], by rw [r2, ← cm]; simp, ?_, r5, r6⟩
        rw [r3, ← ch, r4]; rfl
    obtain ⟨y, k0, k1, k2, k3, k4, k5⟩ := key
    have ev : c.v = (v : Int) := by rw [← cv, k4]
    rw [ev, if_pos (by omega), if_neg (by omega), Int.toNat_natCast, k0] at h
    dsimp only at h
    unfold fitL at h
    rw [decide_eq_true (by rw [← ct, k5]), decide_eq_true k1, decide_eq_true k2, decide_eq_true k3] at h
    exact absurd h (by decide)
/-- What the document's Check answers. -/
theorem checkF_line (c : CI) : checkF c = if (lineC c).2 = true then (if 2064 < (lineC c).1.length then 3 else 0) else 2 := by
  cases hb : (lineC c).2 with
  | true =>
    rw [if_pos rfl]
    obtain ⟨e, d, hd, hu⟩ := line_good (c := c) (s := (lineC c).1) (by rw [← hb])
    rw [e]
    unfold checkF
    rw [hd]
    exact if_pos hu
  | false =>
    rw [if_neg (by decide)]
    unfold checkF
    cases hp : parseF (writeF c) with
    | inl k => rfl
    | inr d => exact if_neg (line_bad hb d hp)
theorem line_write {c : CI} (h : (lineC c).2 = true) : (lineC c).1 = writeF c := (line_good (c := c) (s := (lineC c).1) (by rw [← h])).1
end Go.Proofs.YtjmgheogpglpnaaDoor
