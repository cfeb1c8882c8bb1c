/-
  strip, Cells: how the cells of a matrix are told.
-/
import Derived.Test.YtoaeeojnelmlnaaDoorQCells
namespace Go.Proofs.YtoaeeojnelmlnaaDoor
open Go.RowKit Go.Shelf
set_option linter.unusedVariables false
set_option linter.unusedSimpArgs false
/-- How many of the first leaves lie in one row of blocks. -/
def stripN (S : List (Nat × Nat)) : Nat := match S with | [] => 0 | p :: l => ((p :: l).takeWhile fun q => decide (q.1 = p.1)).length
theorem stripN_le (S : List (Nat × Nat)) : stripN S ≤ S.length := by
  cases S with
  | nil => exact Nat.le_refl _
  | cons p l => exact (List.takeWhile_prefix _).length_le
theorem stripN_pos {S : List (Nat × Nat)} (h : S ≠ []) : 1 ≤ stripN S := by
  cases S with
  | nil => exact absurd rfl h
  | cons p l => simp [stripN, List.takeWhile_cons]
theorem takeWhile_len {α : Type} (f : α → Bool) : ∀ (l : List α) (k : Nat), k ≤ l.length → (∀ i x, i < k → l[i]? = some x → f x = true) → (∀ x, l[k]? = some x → f x = false) → (l.takeWhile f).length = k
  | [], k, hk, _, _ => by simp at hk; subst hk; rfl
  | x :: l, 0, _, _, h => by simp [List.takeWhile_cons, h x rfl]
  | x :: l, k + 1, hk, h1, h2 => by
    rw [List.takeWhile_cons, h1 0 x (by omega) rfl, if_pos rfl, List.length_cons, takeWhile_len f l k (by simpa using hk) (fun i y hi hy => h1 (i + 1) y (by omega) (by simpa using hy)) (fun y hy => h2 y (by simpa using hy))]
theorem stripN_eq {S : List (Nat × Nat)} {p0 : Nat × Nat} {k : Nat} (h0 : S[0]? = some p0) (hk : k ≤ S.length) (h1 : ∀ i x, i < k → S[i]? = some x → x.1 = p0.1) (h2 : ∀ x, S[k]? = some x → x.1 ≠ p0.1) : stripN S = k := by
  cases S with
  | nil => simp at h0
  | cons q l =>
    have e : q = p0 := by simpa using h0
    subst e
    exact takeWhile_len _ _ k hk (fun i x hi hx => by simpa using h1 i x hi hx) (fun x hx => by simpa using h2 x hx)
theorem spt_cells {w : World} {g o i j : Nat} {f : Nat → Nat} (h : w.rangeAt g o (spt i j f).toList) : w.cell? ⟨g, o, none⟩ = some (.int .i64 (i : Nat)) ∧ w.cell? ⟨g, o + 1, none⟩ = some (.int .i64 (j : Nat)) := ⟨h 0 _ (by simp [spt]), h 1 _ (by simp [spt])⟩
section
set_option maxHeartbeats 8000000
set_option maxRecDepth 100000
theorem qstrip_any (M : Nat → Nat → Bool) (g o cap : Nat) (S : List (Nat × Nat)) (hS : S.length ≤ 256) (hne : S ≠ []) (w : World) (hrow : ∀ k p, S[k]? = some p → w.rangeAt g (o + k * 66) (srow M p)) :
    Calls Tryd.prog 91 #[.slice (some ⟨g, o, none⟩) S.length cap] w fun e w' => e = .returned (.int .i64 (stripN S : Nat)) ∧ Far (fun _ => False) w w' := by
  have hpos : 0 < S.length := List.length_pos_iff.2 hne
  obtain ⟨p0, hp0⟩ : ∃ p, S[0]? = some p := ⟨S[0], List.getElem?_eq_getElem hpos⟩
  have hp0' := Lib.hid hp0
  have hrow' := Lib.hid hrow
  have hpi : (0 : Int) < (S.length : Int) := by omega
  clear hne hp0 hrow
  go_enter Tryd.func91, Tryd.ntmps91
  go_wp2_with fail
  go_loopw [3] (fun nv wr => ∃ k : Nat, k ≤ S.length ∧ nv = .int .i64 (k : Nat) ∧ (∀ i x, i < k → S[i]? = some x → x.1 = p0.1) ∧ Far (fun _ => False) w wr) (fun nv _ => S.length - (intOf nv).toNat)
  case atStart => exact ⟨0, Nat.zero_le _, rfl, (fun i x hi => absurd hi (Nat.not_lt_zero _)), Far.refl _ _⟩
  case round =>
    obtain ⟨k, hk, rfl, hsame, hf⟩ := hrel
    have hf' := Lib.hid hf
    have hsame' := Lib.hid hsame
    have c0 : wr.cell? ⟨g, o, none⟩ = some (.int .i64 (p0.1 : Nat)) := by
      have := (spt_cells (range_far (hrow'.out 0 p0 hp0'.out) hf)).1
      simpa using this
    clear hf hsame
    by_cases hlt : k < S.length
    · have dk : (k : Int) < (S.length : Int) := by omega
      obtain ⟨p, hp⟩ : ∃ p, S[k]? = some p := ⟨S[k], List.getElem?_eq_getElem hlt⟩
      have ck : wr.cell? ⟨g, o + k * 66, none⟩ = some (.int .i64 (p.1 : Nat)) := (spt_cells (range_far (hrow'.out k p hp) hf'.out)).1
      have hp' := Lib.hid hp
      clear hp
      by_cases he : p.1 = p0.1
      · have e1 : ((p.1 : Int) == (p0.1 : Int)) = true := by simp [he]
        go_wp2_with fail
        go_quiet (fail)
        go_wp2_with fail
        go_roundw
        case rel => exact ⟨k + 1, by omega, by go_num, fun i x hi hx => (by
          by_cases h9 : i < k
          · exact hsame'.out i x h9 hx
          · have h8 : i = k := by omega
            subst h8
            rw [hp'.out] at hx
            cases hx
            exact he), (hf'.out.drewN _)⟩
        case measure => simp only [intOf]; omega
      · have e1 : ((p.1 : Int) == (p0.1 : Int)) = false := by simp; omega
        have hst : stripN S = k := stripN_eq hp0'.out hk hsame'.out fun x hx => by rw [hp'.out] at hx; cases hx; exact he
        have hst' := Lib.hid hst
        clear hst
        go_wp2_with fail
        go_quiet (fail)
        go_wp2_with fail
        go_ret
        rw [hst'.out]
        exact ⟨rfl, hf'.out.drewN _⟩
    · have dk : ¬ (k : Int) < (S.length : Int) := by omega
      have hst : stripN S = k := stripN_eq hp0'.out hk hsame'.out fun x hx => by rw [List.getElem?_eq_none (by omega)] at hx; cases hx
      have hst' := Lib.hid hst
      clear hst
      go_wp2_with fail
      go_quiet (fail)
      go_wp2_with fail
      go_ret
      rw [hst'.out]
      exact ⟨rfl, hf'.out.drewN _⟩
end
end Go.Proofs.YtoaeeojnelmlnaaDoor
