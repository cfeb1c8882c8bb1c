/-
  The document's Word, Verb, Form, How, Number.
-/
import Derived.Test.YtjmgheogpglpnaaDoorRWords30
namespace Go.Proofs.YtjmgheogpglpnaaDoor
open Go.RowKit
open Go.Lib (decFrom decDigits digitVal)
set_option linter.unusedVariables false
set_option linter.unusedSimpArgs false
/-- The text of a verb's form. -/
def formT (v : Nat) : Tx := if v = 3 then [110] else if v = 4 ∨ v = 6 then [110, 110, 110] else if v = 5 then [104, 110] else if v = 7 then [110, 110, 110, 107, 107] else []
def ltB : Lt → UInt8 | .n => 110 | .k => 107 | .h => 104
theorem formT_map (v : Nat) : formT v = (formV v).map ltB := by
  unfold formT formV
  repeat' split
  all_goals first | rfl | simp_all
def hoT (h : Nat) : Tx := if h = 1 then tMatrix else if h = 2 then tTensor else tGll
theorem verb_hit (i : Nat) (hi : i < 10) : verbOf (wordV (i + 1)) = i + 1 := by
  have : i = 0 ∨ i = 1 ∨ i = 2 ∨ i = 3 ∨ i = 4 ∨ i = 5 ∨ i = 6 ∨ i = 7 ∨ i = 8 ∨ i = 9 := by omega
  rcases this with rfl | rfl | rfl | rfl | rfl | rfl | rfl | rfl | rfl | rfl <;> rfl
theorem verb_none (x : Tx) (h : ∀ j, j < 10 → wordV (j + 1) ≠ x) : verbOf x = 0 := by
  unfold verbOf
  rw [if_neg]
  intro hm
  have h0 := h 0 (by decide)
  have h1 := h 1 (by decide)
  have h2 := h 2 (by decide)
  have h3 := h 3 (by decide)
  have h4 := h 4 (by decide)
  have h5 := h 5 (by decide)
  have h6 := h 6 (by decide)
  have h7 := h 7 (by decide)
  have h8 := h 8 (by decide)
  have h9 := h 9 (by decide)
  simp [verbs] at hm
  rcases hm with e | e | e | e | e | e | e | e | e | e
  · exact h0 e.symm
  · exact h1 e.symm
  · exact h2 e.symm
  · exact h3 e.symm
  · exact h4 e.symm
  · exact h5 e.symm
  · exact h6 e.symm
  · exact h7 e.symm
  · exact h8 e.symm
  · exact h9 e.symm
theorem decFrom_more : ∀ (l r : Tx) (a : Nat), decFrom a (l ++ r) = match decFrom a l with
    | none => none
    | some n => decFrom n r
  | [], r, a => by simp [decFrom]
  | b :: l, r, a => by
    rw [List.cons_append]
    simp only [decFrom]
    cases digitVal b with
    | none => rfl
    | some d => exact decFrom_more l r _
theorem dec_bad {x : Tx} {i n : Nat} {c : UInt8} (hc : x[i]? = some c) (h : decFrom 0 (x.take i) = some n) (hb : ¬ (48 ≤ c.toNat ∧ c.toNat ≤ 57)) : decFrom 0 x = none := by
  obtain ⟨hi, rfl⟩ := List.getElem?_eq_some_iff.1 hc
  have e : x = x.take i ++ x[i] :: x.drop (i + 1) := by rw [← List.drop_eq_getElem_cons hi, List.take_append_drop]
  rw [e, decFrom_more, h]
  simp only [decFrom, digitVal_none _ hb]
theorem dec_good {x : Tx} {i n : Nat} {c : UInt8} (hc : x[i]? = some c) (h : decFrom 0 (x.take i) = some n) (hb : 48 ≤ c.toNat ∧ c.toNat ≤ 57) : decFrom 0 (x.take (i + 1)) = some (n * 10 + (c.toNat - 48)) := by
  rw [List.take_add_one, hc]
  show decFrom 0 (x.take i ++ [c]) = _
  rw [decFrom_app, h, digitVal_some _ hb]
section
set_option maxHeartbeats 2000000
set_option maxRecDepth 100000
theorem rwd_at (i : Nat) (hi : i < 10) (w : World) : Calls Tryd.prog 19 #[.int .i64 ((i : Int) + 1)] w fun e w' => e = .returned (.string ⟨(wordV (i + 1)).toArray⟩) ∧ w' = w := by
  have : i = 0 ∨ i = 1 ∨ i = 2 ∨ i = 3 ∨ i = 4 ∨ i = 5 ∨ i = 6 ∨ i = 7 ∨ i = 8 ∨ i = 9 := by omega
  rcases this with rfl | rfl | rfl | rfl | rfl | rfl | rfl | rfl | rfl | rfl
  all_goals
    go_enter Tryd.func19, Tryd.ntmps19
    go_wp2_with fail
    go_ret
    exact ⟨rfl, rfl⟩
theorem rhow_at (i : Nat) (hi : i < 3) (w : World) : Calls Tryd.prog 25 #[.int .i64 ((i : Int) + 1)] w fun e w' => e = .returned (.string ⟨(hoT (i + 1)).toArray⟩) ∧ w' = w := by
  have : i = 0 ∨ i = 1 ∨ i = 2 := by omega
  rcases this with rfl | rfl | rfl
  all_goals
    go_enter Tryd.func25, Tryd.ntmps25
    go_wp2_with fail
    go_ret
    exact ⟨rfl, rfl⟩
theorem rform_at (v : Nat) (hv : 3 ≤ v) (hv2 : v ≤ 10) (w : World) : Calls Tryd.prog 23 #[.int .i64 (v : Int)] w fun e w' => e = .returned (.string ⟨(formT v).toArray⟩) ∧ w' = w := by
  have : v = 3 ∨ v = 4 ∨ v = 5 ∨ v = 6 ∨ v = 7 ∨ v = 8 ∨ v = 9 ∨ v = 10 := by omega
  rcases this with rfl | rfl | rfl | rfl | rfl | rfl | rfl | rfl
  all_goals
    go_enter Tryd.func23, Tryd.ntmps23
    go_wp2_with fail
    go_ret
    exact ⟨rfl, rfl⟩
theorem rverb_any (x : Tx) (w : World) : Calls Tryd.prog 22 #[st x] w fun e w' => e = .returned (.int .i64 (verbOf x : Int)) ∧ w' = w := by
  unfold st
  go_enter Tryd.func22, Tryd.ntmps22
  go_wp2_with fail
  go_loop [3] (fun v => ∃ i : Nat, v = .int .i64 ((i : Int) + 1) ∧ i ≤ 10 ∧ ∀ j, j < i → wordV (j + 1) ≠ x) (fun v => 12 - (intOf v).toNat)
  case atStart => exact ⟨0, rfl, by omega, fun j h => absurd h (Nat.not_lt_zero _)⟩
  case round =>
    obtain ⟨i, rfl, hi, hno⟩ := hrel
    have hno' := Lib.hid hno
    clear hno
    by_cases hlt : i < 10
    · have e1 : decide ((i : Int) + 1 ≤ 10) = true := by rw [decide_eq_true_eq]; omega
      have WD := rwd_at i hlt w
      by_cases hx : wordV (i + 1) = x
      · have hv := Lib.hid (show (verbOf x : Int) = (i : Int) + 1 by rw [← hx, verb_hit i hlt]; omega)
        have q1 : ((⟨(wordV (i + 1)).toArray⟩ : ByteArray).toList == (⟨x.toArray⟩ : ByteArray).toList) = true := by rw [hx]; simp
        have q2 : (wordV (i + 1) == x) = true := by simpa using hx
        clear hx
        go_wp2_with (refine WD.mono ?_; rintro e w' ⟨rfl, rfl⟩)
        go_ret
        exact ⟨by rw [hv.out]; rfl, rfl⟩
      · have q1 : ((⟨(wordV (i + 1)).toArray⟩ : ByteArray).toList == (⟨x.toArray⟩ : ByteArray).toList) = false := by simpa using hx
        have q2 : (wordV (i + 1) == x) = false := by simpa using hx
        have hno2 := Lib.hid (show ∀ j, j < i + 1 → wordV (j + 1) ≠ x from fun j h => by
          by_cases e : j = i
          · rw [e]; exact hx
          · exact hno'.out j (by omega))
        clear hx
        go_wp2_with (refine WD.mono ?_; rintro e w' ⟨rfl, rfl⟩)
        go_round
        case rel => exact ⟨i + 1, by go_num, by omega, hno2.out⟩
        case measure => simp [intOf]; omega
    · have e1 : decide ((i : Int) + 1 ≤ 10) = false := by rw [decide_eq_false_iff_not]; omega
      have hv := Lib.hid (verb_none x fun j h => hno'.out j (by omega))
      go_wp2_with fail
      go_ret
      exact ⟨by rw [hv.out]; rfl, rfl⟩
def numI (x : Tx) : Int := match numR x with
  | none => -1
  | some n => n
theorem rnumber_any (x : Tx) (w : World) (hs : x.length ≤ 140737488351232) : Calls Tryd.prog 24 #[st x] w fun e w' => e = .returned (.int .i64 (numI x)) ∧ w' = w := by
  obtain ⟨s, hS⟩ : ∃ s : ByteArray, s = ⟨x.toArray⟩ := ⟨_, rfl⟩
  have hsz : s.size = x.length := by rw [hS]; simp [ByteArray.size]
  have hst : st x = .string s := by unfold st; rw [hS]
  have hget : ∀ i (h : i < s.size), x[i]? = some s[i] := fun i h => by
    subst hS
    rw [List.getElem?_eq_getElem (by omega)]
    rfl
  rw [hst]
  obtain ⟨r, hr⟩ : ∃ r, r = numI x := ⟨_, rfl⟩
  rw [← hr]
  have hr' := Lib.hid hr
  have hsz' := Lib.hid hsz
  have hget' := Lib.hid hget
  have hss : s.size ≤ 140737488351232 := by omega
  clear hst hS hget hr hsz
  by_cases h1 : s.size < 1
  · have c1 : decide ((s.size : Int) < 1) = true := by rw [decide_eq_true_eq]; omega
    have hR := Lib.hid (show r = -1 by rw [hr'.out]; unfold numI numR; rw [if_pos (.inl (by have := hsz'.out; omega))])
    go_enter Tryd.func24, Tryd.ntmps24
    go_wp2_with fail
    go_ret
    exact ⟨by rw [hR.out]; rfl, rfl⟩
  have c1 : decide ((s.size : Int) < 1) = false := by rw [decide_eq_false_iff_not]; omega
  by_cases h2 : 9 < s.size
  · have c2 : decide ((9 : Int) < (s.size : Int)) = true := by rw [decide_eq_true_eq]; omega
    have hR := Lib.hid (show r = -1 by rw [hr'.out]; unfold numI numR; rw [if_pos (.inr (.inl (by have := hsz'.out; omega)))])
    go_enter Tryd.func24, Tryd.ntmps24
    go_wp2_with fail
    go_ret
    exact ⟨by rw [hR.out]; rfl, rfl⟩
  have c2 : decide ((9 : Int) < (s.size : Int)) = false := by rw [decide_eq_false_iff_not]; omega
  have h0 : 0 < s.size := by omega
  by_cases h3 : 1 < s.size ∧ s[0] = 48
  · obtain ⟨h3, h4⟩ := h3
    have c3 : decide ((1 : Int) < (s.size : Int)) = true := by rw [decide_eq_true_eq]; omega
    have c4 : ((s[0].toNat : Int) == 48) = true := by rw [h4]; rfl
    have hR := Lib.hid (show r = -1 by
      rw [hr'.out]; unfold numI numR
      rw [if_pos (.inr (.inr ⟨by have := hsz'.out; omega, by rw [List.head?_eq_getElem?, hget'.out 0 h0, h4]⟩))])
    clear h4
    go_enter Tryd.func24, Tryd.ntmps24
    go_wp2_with fail
    go_ret
    exact ⟨by rw [hR.out]; rfl, rfl⟩
  have hR := Lib.hid (show r = match decFrom 0 x with | none => -1 | some n => (n : Int) by
    rw [hr'.out]; unfold numI numR
    rw [if_neg]
    rintro (e | e | ⟨e, e2⟩)
    · have := hsz'.out; omega
    · have := hsz'.out; omega
    · refine h3 ⟨by have := hsz'.out; omega, ?_⟩
      rw [List.head?_eq_getElem?, hget'.out 0 h0] at e2
      exact Option.some.inj e2)
  by_cases h4 : 1 < s.size
  · have c3 : decide ((1 : Int) < (s.size : Int)) = true := by rw [decide_eq_true_eq]; omega
    have CLR : ((s[0].toNat : Int) == 48) = false := by
      simp only [beq_eq_false_iff_ne, ne_eq]
      intro e
      exact h3 ⟨h4, UInt8.toNat_inj.1 (by show s[0].toNat = 48; omega)⟩
    have CLN : ¬ ((s[0].toNat : Int) = 48) := fun e => h3 ⟨h4, UInt8.toNat_inj.1 (by show s[0].toNat = 48; omega)⟩
    clear h3
    go_enter Tryd.func24, Tryd.ntmps24
    go_wp2_with fail
    clear c1 c2 c3 CLR
    go_loop [3, 4] (fun nv iv => ∃ i n : Nat, nv = .int .i64 n ∧ iv = .int .i64 i ∧ i ≤ s.size ∧ decFrom 0 (x.take i) = some n ∧ n < 10 ^ i) (fun _ iv => s.size - (intOf iv).toNat)
    case atStart => exact ⟨0, 0, rfl, rfl, Nat.zero_le _, by simp [decFrom], by decide⟩
    case round =>
      obtain ⟨i, n, rfl, rfl, hi, hd, hn⟩ := hrel
      have hd' := Lib.hid hd
      have hn9 : n < 10 ^ 9 := Nat.lt_of_lt_of_le hn (Nat.pow_le_pow_right (by decide) (by omega))
      have hn9b : n < 1000000000 := hn9
      have hn' := Lib.hid hn
      clear hd hn hn9
      by_cases hlt : i < s.size
      · have e1 : decide ((i : Int) < (s.size : Int)) = true := by rw [decide_eq_true_eq]; omega
        have hii : (i : Int) < (s.size : Int) := by omega
        have hg := hget'.out i hlt
        have hcu : s[i].toNat < 256 := UInt8.toNat_lt _
        have DB := Lib.hid (dec_bad hg hd'.out)
        have DG := Lib.hid (dec_good hg hd'.out)
        clear hg
        by_cases hl : s[i].toNat < 48
        · have q1 : decide ((s[i].toNat : Int) < 48) = true := by rw [decide_eq_true_eq]; omega
          have hR2 := Lib.hid (show r = -1 by rw [hR.out, DB.out (by omega)])
          go_wp2_with fail
          go_ret
          exact ⟨by rw [hR2.out]; rfl, rfl⟩
        · have q1 : decide ((s[i].toNat : Int) < 48) = false := by rw [decide_eq_false_iff_not]; omega
          by_cases hl2 : 57 < s[i].toNat
          · have q2 : decide (57 < (s[i].toNat : Int)) = true := by rw [decide_eq_true_eq]; omega
            have hR2 := Lib.hid (show r = -1 by rw [hR.out, DB.out (by omega)])
            go_wp2_with fail
            go_ret
            exact ⟨by rw [hR2.out]; rfl, rfl⟩
          · have q2 : decide (57 < (s[i].toNat : Int)) = false := by rw [decide_eq_false_iff_not]; omega
            have b1 : (48 : Int) ≤ (s[i].toNat : Int) := by omega
            have b2 : (s[i].toNat : Int) ≤ 57 := by omega
            have hd2 := Lib.hid (DG.out (by omega))
            have hn2 := Lib.hid (show n * 10 + (s[i].toNat - 48) < 10 ^ (i + 1) by have := hn'.out; rw [Nat.pow_succ]; omega)
            clear DB DG
            go_wp2_with fail
            go_round
            case rel => exact ⟨i + 1, n * 10 + (s[i].toNat - 48), by go_num, by go_num, by omega, hd2.out, hn2.out⟩
            case measure => simp [intOf]; omega
      · have e1 : decide ((i : Int) < (s.size : Int)) = false := by rw [decide_eq_false_iff_not]; omega
        have hR2 := Lib.hid (show r = (n : Int) by
          have e := hd'.out
          rw [List.take_of_length_le (by have := hsz'.out; omega)] at e
          rw [hR.out, e])
        go_wp2_with fail
        go_ret
        exact ⟨by rw [hR2.out]; rfl, rfl⟩
  · have c3 : decide ((1 : Int) < (s.size : Int)) = false := by rw [decide_eq_false_iff_not]; omega
    have CLR := 0
    clear h3
    go_enter Tryd.func24, Tryd.ntmps24
    go_wp2_with fail
    clear c1 c2 c3 CLR
    go_loop [3, 4] (fun nv iv => ∃ i n : Nat, nv = .int .i64 n ∧ iv = .int .i64 i ∧ i ≤ s.size ∧ decFrom 0 (x.take i) = some n ∧ n < 10 ^ i) (fun _ iv => s.size - (intOf iv).toNat)
    case atStart => exact ⟨0, 0, rfl, rfl, Nat.zero_le _, by simp [decFrom], by decide⟩
    case round =>
      obtain ⟨i, n, rfl, rfl, hi, hd, hn⟩ := hrel
      have hd' := Lib.hid hd
      have hn9 : n < 10 ^ 9 := Nat.lt_of_lt_of_le hn (Nat.pow_le_pow_right (by decide) (by omega))
      have hn9b : n < 1000000000 := hn9
      have hn' := Lib.hid hn
      clear hd hn hn9
      by_cases hlt : i < s.size
      · have e1 : decide ((i : Int) < (s.size : Int)) = true := by rw [decide_eq_true_eq]; omega
        have hii : (i : Int) < (s.size : Int) := by omega
        have hg := hget'.out i hlt
        have hcu : s[i].toNat < 256 := UInt8.toNat_lt _
        have DB := Lib.hid (dec_bad hg hd'.out)
        have DG := Lib.hid (dec_good hg hd'.out)
        clear hg
        by_cases hl : s[i].toNat < 48
        · have q1 : decide ((s[i].toNat : Int) < 48) = true := by rw [decide_eq_true_eq]; omega
          have hR2 := Lib.hid (show r = -1 by rw [hR.out, DB.out (by omega)])
          go_wp2_with fail
          go_ret
          exact ⟨by rw [hR2.out]; rfl, rfl⟩
        · have q1 : decide ((s[i].toNat : Int) < 48) = false := by rw [decide_eq_false_iff_not]; omega
          by_cases hl2 : 57 < s[i].toNat
          · have q2 : decide (57 < (s[i].toNat : Int)) = true := by rw [decide_eq_true_eq]; omega
            have hR2 := Lib.hid (show r = -1 by rw [hR.out, DB.out (by omega)])
            go_wp2_with fail
            go_ret
            exact ⟨by rw [hR2.out]; rfl, rfl⟩
          · have q2 : decide (57 < (s[i].toNat : Int)) = false := by rw [decide_eq_false_iff_not]; omega
            have b1 : (48 : Int) ≤ (s[i].toNat : Int) := by omega
            have b2 : (s[i].toNat : Int) ≤ 57 := by omega
            have hd2 := Lib.hid (DG.out (by omega))
            have hn2 := Lib.hid (show n * 10 + (s[i].toNat - 48) < 10 ^ (i + 1) by have := hn'.out; rw [Nat.pow_succ]; omega)
            clear DB DG
            go_wp2_with fail
            go_round
            case rel => exact ⟨i + 1, n * 10 + (s[i].toNat - 48), by go_num, by go_num, by omega, hd2.out, hn2.out⟩
            case measure => simp [intOf]; omega
      · have e1 : decide ((i : Int) < (s.size : Int)) = false := by rw [decide_eq_false_iff_not]; omega
        have hR2 := Lib.hid (show r = (n : Int) by
          have e := hd'.out
          rw [List.take_of_length_le (by have := hsz'.out; omega)] at e
          rw [hR.out, e])
        go_wp2_with fail
        go_ret
        exact ⟨by rw [hR2.out]; rfl, rfl⟩
end
end Go.Proofs.YtjmgheogpglpnaaDoor
