/-
  Kronecker's products taken apart again: numbers of cells, squares, outer and inner matrices.
-/
import Derived.Test.YtkobbcmndneajaaDoorQKTaken
namespace Go.Proofs.YtkobbcmndneajaaDoor
open Go.RowKit Go.Shelf
set_option linter.unusedVariables false
set_option linter.unusedSimpArgs false
theorem nd_le : ∀ {l m : List (Nat × Nat)}, l.Nodup → (∀ x ∈ l, x ∈ m) → l.length ≤ m.length
  | [], _, _, _ => Nat.zero_le _
  | a :: l, m, h, hs => by
    obtain ⟨h1, h2⟩ := List.nodup_cons.1 h
    have ha := hs a List.mem_cons_self
    have h3 := nd_le (l := l) (m := m.erase a) h2 fun x hx => (List.mem_erase_of_ne fun e => h1 (by rw [← e]; exact hx)).2 (hs x (List.mem_cons_of_mem _ hx))
    rw [List.length_erase_of_mem ha] at h3
    have h4 := List.length_pos_of_mem ha
    rw [List.length_cons]
    omega
theorem cellsL_nodup (M : Nat → Nat → Bool) (s : Nat) : (cellsL M s).Nodup := (cellsK_rise M s s).imp fun h e => by
  subst e
  unfold lexLt at h
  omega
theorem kronL_nodup {A B : Nat → Nat → Bool} {p q : Nat} (hb : ∀ r c, B r c = true → r < q ∧ c < q) : (kronL q (cellsL A p) (cellsL B q)).Nodup := by
  unfold kronL
  refine List.pairwise_flatMap.2 ⟨fun x _ => ?_, ?_⟩
  · unfold kronR
    rw [List.pairwise_map]
    refine (cellsL_nodup B q).imp fun h e => h ?_
    have e1 := congrArg Prod.fst e
    have e2 := congrArg Prod.snd e
    dsimp only at e1 e2
    exact Prod.ext (by omega) (by omega)
  · refine (cellsL_nodup A p).imp fun h u hu v hv e => h ?_
    unfold kronR at hu hv
    obtain ⟨y, hy, rfl⟩ := List.mem_map.1 hu
    obtain ⟨z, hz, rfl⟩ := List.mem_map.1 hv
    have hy2 := hb _ _ ((mem_cellsL hb).1 hy)
    have hz2 := hb _ _ ((mem_cellsL hb).1 hz)
    have e1 := congrArg (fun t => t.1 / q) e
    have e2 := congrArg (fun t => t.2 / q) e
    dsimp only at e1 e2
    rw [(kron_div hy2.1).1, (kron_div hz2.1).1] at e1
    rw [(kron_div hy2.2).1, (kron_div hz2.2).1] at e2
    exact Prod.ext e1 e2
theorem kron_num {A B : Nat → Nat → Bool} {p q : Nat} (hp : p ≤ 1024) (hq1 : 0 < q) (hq : q ≤ 1024) (hpq : p * q ≤ 1024) (ha : ∀ r c, A r c = true → r < p ∧ c < p) (hb : ∀ r c, B r c = true → r < q ∧ c < q) : numM (kronM A B q) = numM A * numM B := by
  have hk := kronM_within (B := B) hq1 ha
  rw [← cellsL_len hpq hk, ← cellsL_len hp ha, ← cellsL_len hq hb, ← kronL_len q]
  refine Nat.le_antisymm (nd_le (cellsL_nodup _ _) fun x hx => ?_) (nd_le (kronL_nodup hb) fun x hx => ?_)
  · exact (mem_kronL (r := x.1) (c := x.2) hq1 ha hb).2 ((mem_cellsL hk).1 hx)
  · exact (mem_cellsL hk).2 ((mem_kronL (r := x.1) (c := x.2) hq1 ha hb).1 hx)
theorem sq_kron {A B : Nat → Nat → Bool} {q i j : Nat} (hb : ∀ r c, B r c = true → r < q ∧ c < q) : ∀ r s, sqM (kronM A B q) q i j r s = (A i j && B r s) := fun r s => by
  unfold sqM kronM
  by_cases h : r < q ∧ s < q
  · rw [decide_eq_true h.1, decide_eq_true h.2, (kron_div h.1).1, (kron_div h.1).2, (kron_div h.2).1, (kron_div h.2).2]
    simp
  · have : B r s = false := by
      cases e : B r s with
      | false => rfl
      | true => exact absurd (hb _ _ e) h
    rw [this, Bool.and_false]
    by_cases h1 : r < q
    · rw [decide_eq_false (show ¬ s < q from fun h2 => h ⟨h1, h2⟩)]
      simp
    · rw [decide_eq_false h1]
      simp
theorem out_kron {A B : Nat → Nat → Bool} {p q : Nat} (hq : 0 < q) (ha : ∀ r c, A r c = true → r < p ∧ c < p) (hb : ∀ r c, B r c = true → r < q ∧ c < q) (hn : numM B ≠ 0) : ∀ r c, outM (kronM A B q) (p * q) q r c = A r c := fun r c => by
  have hk := kronM_within (B := B) hq ha
  rw [Bool.eq_iff_iff, ← outM_mem (r, c), outL_mem]
  constructor
  · rintro ⟨y, hy, h1, h2⟩
    have h3 := (mem_cellsL hk).1 hy
    unfold kronM at h3
    rw [Bool.and_eq_true, h1, h2] at h3
    exact h3.1
  · intro h
    obtain ⟨u, v, huv⟩ : ∃ u v, B u v = true := by
      by_cases e : ∃ u v, B u v = true
      · exact e
      · refine absurd ?_ hn
        rw [show numM B = numM (fun _ _ => false) from numM_congr fun u v => by
          cases e2 : B u v with
          | false => rfl
          | true => exact absurd ⟨u, v, e2⟩ e]
        exact numM_zero
    obtain ⟨h1, h2⟩ := hb _ _ huv
    refine ⟨(r * q + u, c * q + v), (mem_cellsL hk).2 ?_, (kron_div h1).1, (kron_div h2).1⟩
    unfold kronM
    rw [(kron_div h1).1, (kron_div h1).2, (kron_div h2).1, (kron_div h2).2, h, huv]
    rfl
theorem inn_kron {A B : Nat → Nat → Bool} {p q : Nat} (hq : 0 < q) (ha : ∀ r c, A r c = true → r < p ∧ c < p) (hb : ∀ r c, B r c = true → r < q ∧ c < q) (hn : numM A ≠ 0) : ∀ r c, innM (kronM A B q) (p * q) q r c = B r c := fun r c => by
  have hk := kronM_within (B := B) hq ha
  rw [Bool.eq_iff_iff, ← innM_mem (r, c), innL_mem]
  constructor
  · rintro ⟨y, hy, h1, h2⟩
    have h3 := (mem_cellsL hk).1 hy
    unfold kronM at h3
    rw [Bool.and_eq_true, h1, h2] at h3
    exact h3.2
  · intro h
    obtain ⟨u, v, huv⟩ : ∃ u v, A u v = true := by
      by_cases e : ∃ u v, A u v = true
      · exact e
      · refine absurd ?_ hn
        rw [show numM A = numM (fun _ _ => false) from numM_congr fun u v => by
          cases e2 : A u v with
          | false => rfl
          | true => exact absurd ⟨u, v, e2⟩ e]
        exact numM_zero
    obtain ⟨h1, h2⟩ := hb _ _ h
    refine ⟨(u * q + r, v * q + c), (mem_cellsL hk).2 ?_, (kron_div h1).2, (kron_div h2).2⟩
    unfold kronM
    rw [(kron_div h1).1, (kron_div h1).2, (kron_div h2).1, (kron_div h2).2, h, huv]
    rfl
theorem sqE_zero {sc n t : Nat} (hn : 1 ≤ n) (ht : 1 ≤ t) (hs : sc = t * n) : sqE sc (n : Int) = 0 := by
  have h1 : 1 ≤ t * n := Nat.mul_pos ht hn
  unfold sqE
  rw [if_neg (by omega), if_neg]
  rintro (h | h)
  · omega
  · rw [Int.toNat_natCast, hs, Nat.mul_mod_left] at h
    exact h rfl
section
variable {w : World} {Bc sc : Nat} {Fc : Nat → Prop} {C : Nat → Nat → Bool}
theorem kOuter_yes (hc : Mx w Bc Fc sc C) (n t : Nat) (hn : 1 ≤ n) (ht : 1 ≤ t) (hs : sc = t * n) (hT : Tab w) : Calls Tryd.prog 42 #[.pointer (some ⟨Bc, 0, none⟩), .int .i64 (n : Nat)] w fun e w' => ∃ B', e = .returned (.tuple #[.pointer (some ⟨B', 0, none⟩), .int .i64 0]) ∧ ∃ F', Mx w' B' F' t (outM C sc n) ∧ (∀ k, F' k → w.heap.size ≤ k) ∧ Far (fun _ => False) w w' := by
  have e := sqE_zero hn ht hs
  refine (kOuter_any (.inr ⟨Bc, rfl, hc⟩) (n : Int) hT).mono ?_
  rintro e' w' ⟨v', rfl, F', hX, hlo, hf⟩
  rw [e, if_pos rfl, if_pos rfl, Int.toNat_natCast, show sc / n = t by rw [hs]; exact Nat.mul_div_cancel _ hn] at hX
  obtain ⟨B', rfl, hX2⟩ := hX.mx (by omega)
  exact ⟨B', by rw [e]; rfl, F', hX2, hlo, hf⟩
theorem kInner_yes (hc : Mx w Bc Fc sc C) (n t : Nat) (hn : 1 ≤ n) (ht : 1 ≤ t) (hs : sc = t * n) (hT : Tab w) : Calls Tryd.prog 43 #[.pointer (some ⟨Bc, 0, none⟩), .int .i64 (n : Nat)] w fun e w' => ∃ B', e = .returned (.tuple #[.pointer (some ⟨B', 0, none⟩), .int .i64 0]) ∧ ∃ F', Mx w' B' F' n (innM C sc n) ∧ (∀ k, F' k → w.heap.size ≤ k) ∧ Far (fun _ => False) w w' := by
  have e := sqE_zero hn ht hs
  refine (kInner_any (.inr ⟨Bc, rfl, hc⟩) (n : Int) hT).mono ?_
  rintro e' w' ⟨v', rfl, F', hX, hlo, hf⟩
  rw [e, if_pos rfl, if_pos rfl, Int.toNat_natCast] at hX
  obtain ⟨B', rfl, hX2⟩ := hX.mx (by omega)
  exact ⟨B', by rw [e]; rfl, F', hX2, hlo, hf⟩
theorem kSquare_yes (hc : Mx w Bc Fc sc C) (n t i j : Nat) (hn : 1 ≤ n) (hs : sc = t * n) (hi : i < t) (hj : j < t) (hT : Tab w) : Calls Tryd.prog 41 #[.pointer (some ⟨Bc, 0, none⟩), .int .i64 (n : Nat), .int .i64 (i : Nat), .int .i64 (j : Nat)] w fun e w' => ∃ B', e = .returned (.tuple #[.pointer (some ⟨B', 0, none⟩), .int .i64 0]) ∧ ∃ F', Mx w' B' F' n (sqM C n i j) ∧ (∀ k, F' k → w.heap.size ≤ k) ∧ Far (fun _ => False) w w' := by
  have h2 := hc.sides.2
  exact kSquare_row hc n t i j hn hs hi hj (fun V h5 h6 h7 b5 b6 b7 r s hrs => by
    have h1 := hc.within r s hrs
    exact clo_square V h5 h6 h7 n i j b5 b6 b7 hn r s (by omega) (by omega)) hT
end
end Go.Proofs.YtkobbcmndneajaaDoor
