/-
  QKTaken: QKClo, QKTaken, QKSqR, QKSides.
-/
import Derived.Test.YtkobbcmndneajaaDoorQKSqs
import Derived.Test.YtkobbcmndneajaaDoorQKRefP
import Derived.Test.YtkobbcmndneajaaDoorQJoinD
import Derived.Deep.AppendLies
import Derived.Deep.RegionHeld3
/-! ## QKClo: The closures of kron's Outer, Inner and Square. -/
namespace Go.Proofs.YtkobbcmndneajaaDoor
open Go.RowKit Go.Shelf
set_option linter.unusedVariables false
set_option linter.unusedSimpArgs false
theorem quo_n (r q : Nat) (hq : 1 ≤ q) : (r : Int) / (q : Int) = ((r / q : Nat) : Int) ∧ (r : Int).tdiv (q : Int) = ((r / q : Nat) : Int) := by
  have h : (r : Int) / (q : Int) = ((r / q : Nat) : Int) := by simp
  exact ⟨h, by rw [Int.tdiv_eq_ediv_of_nonneg (Int.natCast_nonneg _)]; exact h⟩
theorem rem_n (r q : Nat) : (r : Int) % (q : Int) = ((r % q : Nat) : Int) ∧ (r : Int).tmod (q : Int) = ((r % q : Nat) : Int) := by
  have h : (r : Int) % (q : Int) = ((r % q : Nat) : Int) := by simp
  exact ⟨h, by rw [Int.tmod_eq_emod_of_nonneg (Int.natCast_nonneg _)]; exact h⟩
theorem wrap_s {m : Nat} (h : m ≤ 4194304) : IntKind.i64.wrap (m : Int) = (m : Int) := by rw [IntKind.wrap_i64]; omega
section
set_option maxHeartbeats 2000000
set_option maxRecDepth 100000
theorem clo_outer (V : World) (h2 q : Nat) (B2 : Bk V h2 3 #[.int .i64 (q : Nat)]) (hq : 1 ≤ q) (r s : Nat) (hr : r ≤ 1024) (hs : s ≤ 1024) :
    Calls Tryd.prog 94 (#[.int .i64 (r : Nat), .int .i64 (s : Nat)] ++ #[.pointer (some ⟨h2, 0, none⟩)]) V fun e w' => e = .returned (.tuple #[.agg #[.int .i64 ((r / q : Nat) : Nat), .int .i64 ((s / q : Nat) : Nat)], .bool true]) ∧ Far (fun _ => False) V w' := by
  obtain ⟨a1, a2⟩ := quo_n r q hq
  obtain ⟨b1, b2⟩ := quo_n s q hq
  have hx1 : r / q ≤ 4194304 := Nat.le_trans (Nat.div_le_self _ _) (by omega)
  have hy1 : s / q ≤ 4194304 := Nat.le_trans (Nat.div_le_self _ _) (by omega)
  obtain ⟨x, hx⟩ : ∃ x, r / q = x := ⟨_, rfl⟩
  obtain ⟨y, hy⟩ : ∃ y, s / q = y := ⟨_, rfl⟩
  rw [hx] at a1 a2 hx1 ⊢
  rw [hy] at b1 b2 hy1 ⊢
  have wx := wrap_s hx1
  have wy := wrap_s hy1
  have q0 : ((q : Int) == 0) = false := by simp; omega
  have q00 : ¬ (q : Int) = 0 := by omega
  have qn : ¬ q = 0 := by omega
  obtain ⟨h5, hh5⟩ : ∃ h, h = V.heap.size := ⟨_, rfl⟩
  obtain ⟨V1, hV1⟩ : ∃ X, X = V.alloc (.cells #[.int .i64 0, .int .i64 0] 82) := ⟨_, rfl⟩
  have hf1 : Far (fun _ => False) V V1 := hV1 ▸ (Far.refl _ V).alloc _
  have hB5 : Bk V1 h5 82 #[.int .i64 0, .int .i64 0] := hV1 ▸ Bk.new hh5
  have c2 : V1.cell? ⟨h2, 0, none⟩ = some (.int .i64 (q : Nat)) := (B2.far' hf1 id).cell 0
  have d0 : V1.cell? ⟨h5, 0, none⟩ = some (.int .i64 0) := hB5.cell 0
  have d1 : V1.cell? ⟨h5, 1, none⟩ = some (.int .i64 0) := hB5.cell 1
  have f0 := hB5.free 0
  have f1 := hB5.free 1
  have n25 : h2 ≠ h5 := Nat.ne_of_lt (by rw [hh5]; exact B2.lt)
  have n52 : h5 ≠ h2 := fun e => n25 e.symm
  have hf1' := Lib.hid hf1
  have hB5' := Lib.hid hB5
  have hh5' := Lib.hid hh5
  have hV1' := Lib.hid hV1
  clear hf1 hB5 hh5 hV1 B2 hx hy hr hs hq
  go_enter Tryd.func94, Tryd.ntmps94
  go_upto_region 1 with fail
  rw [← hV1'.out, ← hh5'.out]
  go_region_held3 (fun w' => w'.cell? ⟨h2, 0, none⟩ = some (.int .i64 (q : Nat))) (go_keep) (first | fail)
  go_wp2_with fail
  (try simp only [Exit.inBlock, Exit.then])
  obtain ⟨w7, hw7⟩ : ∃ X, X = ((V1.setCell ⟨h5, 0, none⟩ (.int .i64 (x : Nat))).setCell ⟨h5, 1, none⟩ (.int .i64 (y : Nat))).drew := ⟨_, rfl⟩
  have hB7 : Bk w7 h5 82 #[.int .i64 (x : Nat), .int .i64 (y : Nat)] := hw7 ▸ ((hB5'.out.set 0 _).set 1 _ : Bk ((V1.setCell ⟨h5, 0, none⟩ (.int .i64 (x : Nat))).setCell ⟨h5, 1, none⟩ (.int .i64 (y : Nat))) h5 _ _)
  have hf7 : Far (fun _ => False) V w7 := hw7 ▸ (((hf1'.out.set ⟨h5, 0, none⟩ _ (fun h => by rw [hh5'.out] at h; exact absurd h (Nat.lt_irrefl _))).set ⟨h5, 1, none⟩ _ (fun h => by rw [hh5'.out] at h; exact absurd h (Nat.lt_irrefl _)))).drew
  have e0 : w7.cell? ⟨h5, 0, none⟩ = some (.int .i64 (x : Nat)) := hB7.cell 0
  have e1 : w7.cell? ⟨h5, 1, none⟩ = some (.int .i64 (y : Nat)) := hB7.cell 1
  rw [← hw7]
  exact bodyPost_ret (v := .tuple #[.agg #[.int .i64 (x : Nat), .int .i64 (y : Nat)], .bool true]) (by simp [results, Tryd.f94, go_sem, e0, e1]) rfl ⟨rfl, hf7⟩
theorem clo_inner (V : World) (h2 q : Nat) (B2 : Bk V h2 3 #[.int .i64 (q : Nat)]) (hq : 1 ≤ q) (r s : Nat) (hr : r ≤ 1024) (hs : s ≤ 1024) :
    Calls Tryd.prog 95 (#[.int .i64 (r : Nat), .int .i64 (s : Nat)] ++ #[.pointer (some ⟨h2, 0, none⟩)]) V fun e w' => e = .returned (.tuple #[.agg #[.int .i64 ((r % q : Nat) : Nat), .int .i64 ((s % q : Nat) : Nat)], .bool true]) ∧ Far (fun _ => False) V w' := by
  obtain ⟨a1, a2⟩ := rem_n r q
  obtain ⟨b1, b2⟩ := rem_n s q
  have hx1 : r % q ≤ 4194304 := Nat.le_trans (Nat.mod_le _ _) (by omega)
  have hy1 : s % q ≤ 4194304 := Nat.le_trans (Nat.mod_le _ _) (by omega)
  obtain ⟨x, hx⟩ : ∃ x, r % q = x := ⟨_, rfl⟩
  obtain ⟨y, hy⟩ : ∃ y, s % q = y := ⟨_, rfl⟩
  rw [hx] at a1 a2 hx1 ⊢
  rw [hy] at b1 b2 hy1 ⊢
  have wx := wrap_s hx1
  have wy := wrap_s hy1
  have q0 : ((q : Int) == 0) = false := by simp; omega
  have q00 : ¬ (q : Int) = 0 := by omega
  have qn : ¬ q = 0 := by omega
  obtain ⟨h5, hh5⟩ : ∃ h, h = V.heap.size := ⟨_, rfl⟩
  obtain ⟨V1, hV1⟩ : ∃ X, X = V.alloc (.cells #[.int .i64 0, .int .i64 0] 82) := ⟨_, rfl⟩
  have hf1 : Far (fun _ => False) V V1 := hV1 ▸ (Far.refl _ V).alloc _
  have hB5 : Bk V1 h5 82 #[.int .i64 0, .int .i64 0] := hV1 ▸ Bk.new hh5
  have c2 : V1.cell? ⟨h2, 0, none⟩ = some (.int .i64 (q : Nat)) := (B2.far' hf1 id).cell 0
  have d0 : V1.cell? ⟨h5, 0, none⟩ = some (.int .i64 0) := hB5.cell 0
  have d1 : V1.cell? ⟨h5, 1, none⟩ = some (.int .i64 0) := hB5.cell 1
  have f0 := hB5.free 0
  have f1 := hB5.free 1
  have n25 : h2 ≠ h5 := Nat.ne_of_lt (by rw [hh5]; exact B2.lt)
  have n52 : h5 ≠ h2 := fun e => n25 e.symm
  have hf1' := Lib.hid hf1
  have hB5' := Lib.hid hB5
  have hh5' := Lib.hid hh5
  have hV1' := Lib.hid hV1
  clear hf1 hB5 hh5 hV1 B2 hx hy hr hs hq
  go_enter Tryd.func95, Tryd.ntmps95
  go_upto_region 1 with fail
  rw [← hV1'.out, ← hh5'.out]
  go_region_held3 (fun w' => w'.cell? ⟨h2, 0, none⟩ = some (.int .i64 (q : Nat))) (go_keep) (first | fail)
  go_wp2_with fail
  (try simp only [Exit.inBlock, Exit.then])
  obtain ⟨w7, hw7⟩ : ∃ X, X = ((V1.setCell ⟨h5, 0, none⟩ (.int .i64 (x : Nat))).setCell ⟨h5, 1, none⟩ (.int .i64 (y : Nat))).drew := ⟨_, rfl⟩
  have hB7 : Bk w7 h5 82 #[.int .i64 (x : Nat), .int .i64 (y : Nat)] := hw7 ▸ ((hB5'.out.set 0 _).set 1 _ : Bk ((V1.setCell ⟨h5, 0, none⟩ (.int .i64 (x : Nat))).setCell ⟨h5, 1, none⟩ (.int .i64 (y : Nat))) h5 _ _)
  have hf7 : Far (fun _ => False) V w7 := hw7 ▸ (((hf1'.out.set ⟨h5, 0, none⟩ _ (fun h => by rw [hh5'.out] at h; exact absurd h (Nat.lt_irrefl _))).set ⟨h5, 1, none⟩ _ (fun h => by rw [hh5'.out] at h; exact absurd h (Nat.lt_irrefl _)))).drew
  have e0 : w7.cell? ⟨h5, 0, none⟩ = some (.int .i64 (x : Nat)) := hB7.cell 0
  have e1 : w7.cell? ⟨h5, 1, none⟩ = some (.int .i64 (y : Nat)) := hB7.cell 1
  rw [← hw7]
  exact bodyPost_ret (v := .tuple #[.agg #[.int .i64 (x : Nat), .int .i64 (y : Nat)], .bool true]) (by simp [results, Tryd.f95, go_sem, e0, e1]) rfl ⟨rfl, hf7⟩
theorem clo_square (V : World) (h5 h6 h7 q i j : Nat) (B5 : Bk V h5 3 #[.int .i64 (q : Nat)]) (B6 : Bk V h6 3 #[.int .i64 (i : Nat)]) (B7 : Bk V h7 3 #[.int .i64 (j : Nat)]) (hq : 1 ≤ q) (r s : Nat) (hr : r ≤ 1024) (hs : s ≤ 1024) :
    Calls Tryd.prog 93 (#[.int .i64 (r : Nat), .int .i64 (s : Nat)] ++ #[.pointer (some ⟨h5, 0, none⟩), .pointer (some ⟨h6, 0, none⟩), .pointer (some ⟨h7, 0, none⟩)]) V fun e w' => e = .returned (.tuple #[.agg #[.int .i64 ((r % q : Nat) : Nat), .int .i64 ((s % q : Nat) : Nat)], .bool (decide (r / q = i) && decide (s / q = j))]) ∧ Far (fun _ => False) V w' := by
  obtain ⟨a1, a2⟩ := quo_n r q hq
  obtain ⟨b1, b2⟩ := quo_n s q hq
  obtain ⟨k1, k2⟩ := rem_n r q
  obtain ⟨l1, l2⟩ := rem_n s q
  have hx1 : r / q ≤ 4194304 := Nat.le_trans (Nat.div_le_self _ _) (by omega)
  have hy1 : s / q ≤ 4194304 := Nat.le_trans (Nat.div_le_self _ _) (by omega)
  have hu1 : r % q ≤ 4194304 := Nat.le_trans (Nat.mod_le _ _) (by omega)
  have hv1 : s % q ≤ 4194304 := Nat.le_trans (Nat.mod_le _ _) (by omega)
  obtain ⟨x, hx⟩ : ∃ x, r / q = x := ⟨_, rfl⟩
  obtain ⟨y, hy⟩ : ∃ y, s / q = y := ⟨_, rfl⟩
  obtain ⟨u, hu⟩ : ∃ u, r % q = u := ⟨_, rfl⟩
  obtain ⟨v, hv⟩ : ∃ v, s % q = v := ⟨_, rfl⟩
  rw [hx] at a1 a2 hx1 ⊢
  rw [hy] at b1 b2 hy1 ⊢
  rw [hu] at k1 k2 hu1 ⊢
  rw [hv] at l1 l2 hv1 ⊢
  have wx := wrap_s hx1
  have wy := wrap_s hy1
  have wu := wrap_s hu1
  have wv := wrap_s hv1
  have q0 : ((q : Int) == 0) = false := by simp; omega
  have q00 : ¬ (q : Int) = 0 := by omega
  have qn : ¬ q = 0 := by omega
  obtain ⟨h8, hh8⟩ : ∃ h, h = V.heap.size := ⟨_, rfl⟩
  obtain ⟨V1, hV1⟩ : ∃ X, X = V.alloc (.cells #[.int .i64 0, .int .i64 0] 82) := ⟨_, rfl⟩
  have hf1 : Far (fun _ => False) V V1 := hV1 ▸ (Far.refl _ V).alloc _
  have hB8 : Bk V1 h8 82 #[.int .i64 0, .int .i64 0] := hV1 ▸ Bk.new hh8
  have c5 : V1.cell? ⟨h5, 0, none⟩ = some (.int .i64 (q : Nat)) := (B5.far' hf1 id).cell 0
  have c6 : V1.cell? ⟨h6, 0, none⟩ = some (.int .i64 (i : Nat)) := (B6.far' hf1 id).cell 0
  have c7 : V1.cell? ⟨h7, 0, none⟩ = some (.int .i64 (j : Nat)) := (B7.far' hf1 id).cell 0
  have d0 : V1.cell? ⟨h8, 0, none⟩ = some (.int .i64 0) := hB8.cell 0
  have d1 : V1.cell? ⟨h8, 1, none⟩ = some (.int .i64 0) := hB8.cell 1
  have f0 := hB8.free 0
  have f1 := hB8.free 1
  have n58 : h5 ≠ h8 := Nat.ne_of_lt (by rw [hh8]; exact B5.lt)
  have n68 : h6 ≠ h8 := Nat.ne_of_lt (by rw [hh8]; exact B6.lt)
  have n78 : h7 ≠ h8 := Nat.ne_of_lt (by rw [hh8]; exact B7.lt)
  have n85 : h8 ≠ h5 := fun e => n58 e.symm
  have n86 : h8 ≠ h6 := fun e => n68 e.symm
  have n87 : h8 ≠ h7 := fun e => n78 e.symm
  have hf1' := Lib.hid hf1
  have hB8' := Lib.hid hB8
  have hh8' := Lib.hid hh8
  have hV1' := Lib.hid hV1
  clear hf1 hB8 hh8 hV1 B5 B6 B7 hx hy hu hv hr hs hq
  by_cases hi : x = i
  · rw [decide_eq_true hi, Bool.true_and]
    subst hi
    have ib : ((x : Int) == (x : Int)) = true := by simp
    by_cases hj : y = j
    · rw [decide_eq_true hj]
      subst hj
      have jb : ((y : Int) == (y : Int)) = true := by simp
      go_enter Tryd.func93, Tryd.ntmps93
      go_upto_region 1 with fail
      rw [← hV1'.out, ← hh8'.out]
      go_region_held3 (fun w' => w'.cell? ⟨h5, 0, none⟩ = some (.int .i64 (q : Nat)) ∧ w'.cell? ⟨h6, 0, none⟩ = some (.int .i64 (x : Nat)) ∧ w'.cell? ⟨h7, 0, none⟩ = some (.int .i64 (y : Nat))) (go_keep) (first | fail)
      go_wp2_with fail
      (try simp only [Exit.inBlock, Exit.then])
      obtain ⟨w7, hw7⟩ : ∃ X, X = ((V1.setCell ⟨h8, 0, none⟩ (.int .i64 (u : Nat))).setCell ⟨h8, 1, none⟩ (.int .i64 (v : Nat))).drew := ⟨_, rfl⟩
      have hB7 : Bk w7 h8 82 #[.int .i64 (u : Nat), .int .i64 (v : Nat)] := hw7 ▸ ((hB8'.out.set 0 _).set 1 _ : Bk ((V1.setCell ⟨h8, 0, none⟩ (.int .i64 (u : Nat))).setCell ⟨h8, 1, none⟩ (.int .i64 (v : Nat))) h8 _ _)
      have hf7 : Far (fun _ => False) V w7 := hw7 ▸ (((hf1'.out.set ⟨h8, 0, none⟩ _ (fun h => by rw [hh8'.out] at h; exact absurd h (Nat.lt_irrefl _))).set ⟨h8, 1, none⟩ _ (fun h => by rw [hh8'.out] at h; exact absurd h (Nat.lt_irrefl _)))).drew
      have e0 : w7.cell? ⟨h8, 0, none⟩ = some (.int .i64 (u : Nat)) := hB7.cell 0
      have e1 : w7.cell? ⟨h8, 1, none⟩ = some (.int .i64 (v : Nat)) := hB7.cell 1
      rw [← hw7]
      exact bodyPost_ret (v := .tuple #[.agg #[.int .i64 (u : Nat), .int .i64 (v : Nat)], .bool true]) (by simp [results, Tryd.f93, go_sem, e0, e1]) rfl ⟨rfl, hf7⟩
    · rw [decide_eq_false hj]
      have jb : ((y : Int) == (j : Int)) = false := by simp; omega
      go_enter Tryd.func93, Tryd.ntmps93
      go_upto_region 1 with fail
      rw [← hV1'.out, ← hh8'.out]
      go_region_held3 (fun w' => w'.cell? ⟨h5, 0, none⟩ = some (.int .i64 (q : Nat)) ∧ w'.cell? ⟨h6, 0, none⟩ = some (.int .i64 (x : Nat)) ∧ w'.cell? ⟨h7, 0, none⟩ = some (.int .i64 (j : Nat))) (go_keep) (first | fail)
      go_wp2_with fail
      (try simp only [Exit.inBlock, Exit.then])
      obtain ⟨w7, hw7⟩ : ∃ X, X = ((V1.setCell ⟨h8, 0, none⟩ (.int .i64 (u : Nat))).setCell ⟨h8, 1, none⟩ (.int .i64 (v : Nat))).drew := ⟨_, rfl⟩
      have hB7 : Bk w7 h8 82 #[.int .i64 (u : Nat), .int .i64 (v : Nat)] := hw7 ▸ ((hB8'.out.set 0 _).set 1 _ : Bk ((V1.setCell ⟨h8, 0, none⟩ (.int .i64 (u : Nat))).setCell ⟨h8, 1, none⟩ (.int .i64 (v : Nat))) h8 _ _)
      have hf7 : Far (fun _ => False) V w7 := hw7 ▸ (((hf1'.out.set ⟨h8, 0, none⟩ _ (fun h => by rw [hh8'.out] at h; exact absurd h (Nat.lt_irrefl _))).set ⟨h8, 1, none⟩ _ (fun h => by rw [hh8'.out] at h; exact absurd h (Nat.lt_irrefl _)))).drew
      have e0 : w7.cell? ⟨h8, 0, none⟩ = some (.int .i64 (u : Nat)) := hB7.cell 0
      have e1 : w7.cell? ⟨h8, 1, none⟩ = some (.int .i64 (v : Nat)) := hB7.cell 1
      rw [← hw7]
      exact bodyPost_ret (v := .tuple #[.agg #[.int .i64 (u : Nat), .int .i64 (v : Nat)], .bool false]) (by simp [results, Tryd.f93, go_sem, e0, e1]) rfl ⟨rfl, hf7⟩
  · rw [decide_eq_false hi, Bool.false_and]
    have ib : ((x : Int) == (i : Int)) = false := by simp; omega
    go_enter Tryd.func93, Tryd.ntmps93
    go_upto_region 1 with fail
    rw [← hV1'.out, ← hh8'.out]
    refine wp_region_held_drew (S := (fun w' => w'.cell? ⟨h5, 0, none⟩ = some (.int .i64 (q : Nat)) ∧ w'.cell? ⟨h6, 0, none⟩ = some (.int .i64 (i : Nat)) ∧ w'.cell? ⟨h7, 0, none⟩ = some (.int .i64 (j : Nat)))) (by kernel_rfl) (by go_keep) (fun hHeld => ?_)
    refine wpAnyH_take (i := 0) (v := ?v0) rfl (by kernel_rfl) (by kernel_rfl) (by kernel_rfl) (fun _ _ _ h => h) (Or.inl ⟨by rfl, ?y0⟩) (by assumption) ?r0
    case y0 => (intro w hSw; (try dsimp only at hSw); go_simp; (try with_reducible rfl))
    simp only [Act.put, List.getElem_toArray, List.getElem_cons_zero, List.getElem_cons_succ, List.setIfInBounds_toArray, List.set_cons_zero, List.set_cons_succ]
    refine wpAnyH_take (i := 1) (v := ?v1) rfl (by kernel_rfl) (by kernel_rfl) (by kernel_rfl) (fun _ _ _ h => h) (Or.inl ⟨by rfl, ?y1⟩) (by assumption) ?r1
    case y1 => (intro w hSw; (try dsimp only at hSw); go_simp; (try with_reducible rfl))
    simp only [Act.put, List.getElem_toArray, List.getElem_cons_zero, List.getElem_cons_succ, List.setIfInBounds_toArray, List.set_cons_zero, List.set_cons_succ]
    refine wpAnyH_take (i := 2) (v := ?v2) rfl (by kernel_rfl) (by kernel_rfl) (by kernel_rfl) (fun _ _ _ h => h) (Or.inl ⟨by rfl, ?y2⟩) (by assumption) ?r2
    case y2 => (intro w hSw; (try dsimp only at hSw); go_simp; (try with_reducible rfl))
    simp only [Act.put, List.getElem_toArray, List.getElem_cons_zero, List.getElem_cons_succ, List.setIfInBounds_toArray, List.set_cons_zero, List.set_cons_succ]
    refine wpAnyH_take (i := 3) (v := ?v3) rfl (by kernel_rfl) (by kernel_rfl) (by kernel_rfl) (fun _ _ _ h => h) (Or.inl ⟨by rfl, ?y3⟩) (by assumption) ?r3
    case y3 => (intro w hSw; (try dsimp only at hSw); go_simp; (try with_reducible rfl))
    simp only [Act.put, List.getElem_toArray, List.getElem_cons_zero, List.getElem_cons_succ, List.setIfInBounds_toArray, List.set_cons_zero, List.set_cons_succ]
    refine wpAnyH_take (i := 4) (v := ?v4) rfl (by kernel_rfl) (by kernel_rfl) (by kernel_rfl) (fun _ _ _ h => h) (Or.inl ⟨by rfl, ?y4⟩) (by assumption) ?r4
    case y4 => (intro w hSw; (try dsimp only at hSw); go_simp; (try with_reducible rfl))
    simp only [Act.put, List.getElem_toArray, List.getElem_cons_zero, List.getElem_cons_succ, List.setIfInBounds_toArray, List.set_cons_zero, List.set_cons_succ]
    refine wpAnyH_take (i := 5) (v := ?v5) rfl (by kernel_rfl) (by kernel_rfl) (by kernel_rfl) (fun _ _ _ h => h) (Or.inl ⟨by rfl, ?y5⟩) (by assumption) ?r5
    case y5 => (intro w hSw; (try dsimp only at hSw); go_simp; (try with_reducible rfl))
    simp only [Act.put, List.getElem_toArray, List.getElem_cons_zero, List.getElem_cons_succ, List.setIfInBounds_toArray, List.set_cons_zero, List.set_cons_succ]
    refine wpAnyH_take (i := 6) (v := ?v6) rfl (by kernel_rfl) (by kernel_rfl) (by kernel_rfl) (fun _ _ _ h => h) (Or.inl ⟨by rfl, ?y6⟩) (by assumption) ?r6
    case y6 => (intro w hSw; (try dsimp only at hSw); go_simp; (try with_reducible rfl))
    simp only [Act.put, List.getElem_toArray, List.getElem_cons_zero, List.getElem_cons_succ, List.setIfInBounds_toArray, List.set_cons_zero, List.set_cons_succ]
    refine wpAnyH_take (i := 7) (v := ?v7) rfl (by kernel_rfl) (by kernel_rfl) (by kernel_rfl) (fun _ _ _ h => h) (Or.inl ⟨by rfl, ?y7⟩) (by assumption) ?r7
    case y7 => (intro w hSw; (try dsimp only at hSw); go_simp; (try with_reducible rfl))
    simp only [Act.put, List.getElem_toArray, List.getElem_cons_zero, List.getElem_cons_succ, List.setIfInBounds_toArray, List.set_cons_zero, List.set_cons_succ]
    refine wpAnyH_take (i := 8) (v := ?v8) rfl (by kernel_rfl) (by kernel_rfl) (by kernel_rfl) (fun _ _ _ h => h) (Or.inl ⟨by rfl, ?y8⟩) (by assumption) ?r8
    case y8 => (intro w hSw; (try dsimp only at hSw); go_simp; (try with_reducible rfl))
    simp only [Act.put, List.getElem_toArray, List.getElem_cons_zero, List.getElem_cons_succ, List.setIfInBounds_toArray, List.set_cons_zero, List.set_cons_succ]
    refine wpAnyH_take (i := 9) (v := ?v9) rfl (by kernel_rfl) (by kernel_rfl) (by kernel_rfl) (fun _ _ _ h => h) (Or.inl ⟨by rfl, ?y9⟩) (by assumption) ?r9
    case y9 => (intro w hSw; (try dsimp only at hSw); go_simp; (try with_reducible rfl))
    simp only [Act.put, List.getElem_toArray, List.getElem_cons_zero, List.getElem_cons_succ, List.setIfInBounds_toArray, List.set_cons_zero, List.set_cons_succ]
    refine wpAnyH_take (i := 10) (v := ?v10) rfl (by kernel_rfl) (by kernel_rfl) (by kernel_rfl) (fun _ _ _ h => h) (Or.inl ⟨by rfl, ?y10⟩) (by assumption) ?r10
    case y10 => (intro w hSw; (try dsimp only at hSw); go_simp; (try with_reducible rfl))
    simp only [Act.put, List.getElem_toArray, List.getElem_cons_zero, List.getElem_cons_succ, List.setIfInBounds_toArray, List.set_cons_zero, List.set_cons_succ]
    refine wpAnyH_take (i := 11) (v := ?v11) rfl (by kernel_rfl) (by kernel_rfl) (by kernel_rfl) (fun _ _ _ h => h) (Or.inl ⟨by rfl, ?y11⟩) (by assumption) ?r11
    case y11 => (intro w hSw; (try dsimp only at hSw); go_simp; (try with_reducible rfl))
    simp only [Act.put, List.getElem_toArray, List.getElem_cons_zero, List.getElem_cons_succ, List.setIfInBounds_toArray, List.set_cons_zero, List.set_cons_succ]
    refine wpAnyH_take (i := 12) (v := ?v12) rfl (by kernel_rfl) (by kernel_rfl) (by kernel_rfl) (fun _ _ _ h => h) (Or.inl ⟨by rfl, ?y12⟩) (by assumption) ?r12
    case y12 => (intro w hSw; (try dsimp only at hSw); go_simp; (try with_reducible rfl))
    simp only [Act.put, List.getElem_toArray, List.getElem_cons_zero, List.getElem_cons_succ, List.setIfInBounds_toArray, List.set_cons_zero, List.set_cons_succ]
    refine wpAnyH_take (i := 13) rfl (by kernel_rfl) (by kernel_rfl) (by kernel_rfl) (fun _ _ _ h => h) (Or.inr ⟨by kernel_rfl, rfl⟩) (by assumption) ?_
    simp only [Act.put, List.getElem_toArray, List.getElem_cons_zero, List.getElem_cons_succ, List.setIfInBounds_toArray, List.set_cons_zero, List.set_cons_succ]
    refine wpAnyH_take (i := 14) rfl (by kernel_rfl) (by kernel_rfl) (by kernel_rfl) (fun _ _ _ h => h) (Or.inr ⟨by kernel_rfl, rfl⟩) (by assumption) ?_
    simp only [Act.put, List.getElem_toArray, List.getElem_cons_zero, List.getElem_cons_succ, List.setIfInBounds_toArray, List.set_cons_zero, List.set_cons_succ]
    refine wpAnyH_take (i := 15) rfl (by kernel_rfl) (by kernel_rfl) (by kernel_rfl) (fun _ _ _ h => h) (Or.inr ⟨by kernel_rfl, rfl⟩) (by assumption) ?_
    simp only [Act.put, List.getElem_toArray, List.getElem_cons_zero, List.getElem_cons_succ, List.setIfInBounds_toArray, List.set_cons_zero, List.set_cons_succ]
    refine wpAnyH_take (i := 16) rfl (by kernel_rfl) (by kernel_rfl) (by kernel_rfl) (fun _ _ _ h => h) (Or.inr ⟨by kernel_rfl, rfl⟩) (by assumption) ?_
    simp only [Act.put, List.getElem_toArray, List.getElem_cons_zero, List.getElem_cons_succ, List.setIfInBounds_toArray, List.set_cons_zero, List.set_cons_succ]
    refine wpAnyH_take (i := 17) rfl (by kernel_rfl) (by kernel_rfl) (by kernel_rfl) (fun _ _ _ h => h) (Or.inr ⟨by kernel_rfl, rfl⟩) (by assumption) ?_
    simp only [Act.put, List.getElem_toArray, List.getElem_cons_zero, List.getElem_cons_succ, List.setIfInBounds_toArray, List.set_cons_zero, List.set_cons_succ]
    refine wpAnyH_take (i := 18) (v := ?v18) rfl (by kernel_rfl) (by kernel_rfl) (by kernel_rfl) (fun _ _ _ h => h) (Or.inl ⟨by rfl, ?y18⟩) (by assumption) ?r18
    case y18 => (intro w hSw; (try dsimp only at hSw); go_simp; (try with_reducible rfl))
    simp only [Act.put, List.getElem_toArray, List.getElem_cons_zero, List.getElem_cons_succ, List.setIfInBounds_toArray, List.set_cons_zero, List.set_cons_succ]
    refine wpAnyH_ready (rs := [19]) (by kernel_rfl) (by decide) (AllReadyH.cons rfl (fun K' hK => ?_) AllReadyH.nil)
    simp only [List.getElem_toArray, List.getElem_cons_zero, List.getElem_cons_succ]
    go_simp
    refine hK.out _ _ (by go_keep) fun hS2 => ?_
    clear hK
    try simp only [Act.put, List.getElem_toArray, List.getElem_cons_zero, List.getElem_cons_succ, List.setIfInBounds_toArray, List.set_cons_zero, List.set_cons_succ]
    refine wpAnyH_take (i := 20) (v := ?v20) rfl (by kernel_rfl) (by kernel_rfl) (by kernel_rfl) (fun _ _ _ h => h) (Or.inl ⟨by rfl, ?y20⟩) (by assumption) ?r20
    case y20 => (intro w hSw; (try dsimp only at hSw); go_simp; (try with_reducible rfl))
    simp only [Act.put, List.getElem_toArray, List.getElem_cons_zero, List.getElem_cons_succ, List.setIfInBounds_toArray, List.set_cons_zero, List.set_cons_succ]
    refine wpAnyH_done (by kernel_rfl) ?_ _
    go_wp2_with fail
    (try simp only [Exit.inBlock, Exit.then])
    obtain ⟨w7, hw7⟩ : ∃ X, X = ((V1.setCell ⟨h8, 0, none⟩ (.int .i64 (u : Nat))).setCell ⟨h8, 1, none⟩ (.int .i64 (v : Nat))).drew := ⟨_, rfl⟩
    have hB7 : Bk w7 h8 82 #[.int .i64 (u : Nat), .int .i64 (v : Nat)] := hw7 ▸ ((hB8'.out.set 0 _).set 1 _ : Bk ((V1.setCell ⟨h8, 0, none⟩ (.int .i64 (u : Nat))).setCell ⟨h8, 1, none⟩ (.int .i64 (v : Nat))) h8 _ _)
    have hf7 : Far (fun _ => False) V w7 := hw7 ▸ (((hf1'.out.set ⟨h8, 0, none⟩ _ (fun h => by rw [hh8'.out] at h; exact absurd h (Nat.lt_irrefl _))).set ⟨h8, 1, none⟩ _ (fun h => by rw [hh8'.out] at h; exact absurd h (Nat.lt_irrefl _)))).drew
    have e0 : w7.cell? ⟨h8, 0, none⟩ = some (.int .i64 (u : Nat)) := hB7.cell 0
    have e1 : w7.cell? ⟨h8, 1, none⟩ = some (.int .i64 (v : Nat)) := hB7.cell 1
    rw [← hw7]
    exact bodyPost_ret (v := .tuple #[.agg #[.int .i64 (u : Nat), .int .i64 (v : Nat)], .bool false]) (by simp [results, Tryd.f93, go_sem, e0, e1]) rfl ⟨rfl, hf7⟩
end
end Go.Proofs.YtkobbcmndneajaaDoor
/-! ## QKTaken: kron.Square, Outer and Inner whatever they are handed. -/
namespace Go.Proofs.YtkobbcmndneajaaDoor
open Go.RowKit Go.Shelf
set_option linter.unusedVariables false
set_option linter.unusedSimpArgs false
def sqE (sc : Nat) (q : Int) : Nat := if sc = 0 then 1 else if q < 1 ∨ sc % q.toNat ≠ 0 then 5 else 0
def sq4E (sc : Nat) (q i j : Int) : Nat := if sqE sc q = 0 then (if (0 ≤ i ∧ i < ((sc / q.toNat : Nat) : Int)) ∧ 0 ≤ j ∧ j < ((sc / q.toNat : Nat) : Int) then 0 else 2) else sqE sc q
theorem sqE_ok {sc : Nat} {q : Int} (h : sqE sc q = 0) : ∃ n t : Nat, q = (n : Int) ∧ 1 ≤ n ∧ sc = t * n ∧ 1 ≤ sc ∧ 1 ≤ t ∧ sc / q.toNat = t := by
  unfold sqE at h
  split at h
  · cases h
  · split at h
    · cases h
    · rename_i h1 h2
      obtain ⟨n, rfl⟩ : ∃ n : Nat, q = (n : Int) := ⟨q.toNat, by omega⟩
      have h3 : sc % n = 0 := by
        by_cases e : sc % n = 0
        · exact e
        · exact absurd (.inr e) h2
      have h4 : sc = sc / n * n := (Nat.div_mul_cancel (Nat.dvd_of_mod_eq_zero h3)).symm
      refine ⟨n, sc / n, rfl, by omega, h4, by omega, ?_, rfl⟩
      rcases Nat.eq_zero_or_pos (sc / n) with e | e
      · rw [e] at h4; omega
      · exact e
/-- Which squares have a cell; all squares' cells. -/
def outM (C : Nat → Nat → Bool) (sc q : Nat) : Nat → Nat → Bool := addL zeroM (mkL (fun r s => r / q) (fun r s => s / q) (fun _ _ => true) (cellsL C sc))
def innM (C : Nat → Nat → Bool) (sc q : Nat) : Nat → Nat → Bool := addL zeroM (mkL (fun r s => r % q) (fun r s => s % q) (fun _ _ => true) (cellsL C sc))
section
set_option maxHeartbeats 4000000
set_option maxRecDepth 100000
theorem ksquares_any {w : World} {v : Value} {F : Nat → Prop} {sc : Nat} {C : Nat → Nat → Bool} (hc : HasF w v F sc C) (q : Int) : Calls Tryd.prog 91 #[v, .int .i64 q] w fun e w' => e = .returned (.int .i64 (sqE sc q : Nat)) ∧ w = w' := by
  have NC := knone_any hc
  by_cases h0 : sc = 0
  · have e : sqE sc q = 1 := by unfold sqE; rw [if_pos h0]
    rw [e]
    rw [decide_eq_true h0] at NC
    clear hc h0 e
    go_enter Tryd.func91, Tryd.ntmps91
    go_wp2_with fail
    refine NC.mono ?_
    rintro e w' ⟨rfl, rfl⟩
    clear NC
    go_wp2_with fail
    go_ret
    exact ⟨rfl, rfl⟩
  · by_cases h1 : q < 1
    · have e : sqE sc q = 5 := by unfold sqE; rw [if_neg h0, if_pos (.inl h1)]
      rw [e]
      rw [decide_eq_false h0] at NC
      clear hc h0 e
      go_enter Tryd.func91, Tryd.ntmps91
      go_wp2_with fail
      refine NC.mono ?_
      rintro e w' ⟨rfl, rfl⟩
      clear NC
      go_wp2_with fail
      go_ret
      exact ⟨rfl, rfl⟩
    · obtain ⟨n, rfl⟩ : ∃ n : Nat, q = (n : Int) := ⟨q.toNat, by omega⟩
      obtain ⟨B, rfl, hX⟩ := hc.mx h0
      by_cases h2 : sc % n = 0
      · have e : sqE sc (n : Int) = 0 := by unfold sqE; rw [if_neg h0, if_neg]; rintro (h | h); exact h1 h; exact h h2
        rw [e]
        exact ksquares_yes hX n (sc / n) (by omega) (Nat.div_mul_cancel (Nat.dvd_of_mod_eq_zero h2)).symm
      · have e : sqE sc (n : Int) = 5 := by unfold sqE; rw [if_neg h0, if_pos (.inr h2)]
        rw [e]
        exact ksquares_no hX n (by omega) h2
theorem kSquare_any {w : World} {v : Value} {F : Nat → Prop} {sc : Nat} {C : Nat → Nat → Bool} (hc : HasF w v F sc C) (q i j : Int) (hT : Tab w) : Calls Tryd.prog 41 #[v, .int .i64 q, .int .i64 i, .int .i64 j] w fun e w' => ∃ v', e = .returned (.tuple #[v', .int .i64 (sq4E sc q i j : Nat)]) ∧ ∃ F', HasF w' v' F' (if sq4E sc q i j = 0 then q.toNat else 0) (if sq4E sc q i j = 0 then sqM C q.toNat i.toNat j.toNat else zeroM) ∧ (∀ k, F' k → w.heap.size ≤ k) ∧ Far (fun _ => False) w w' := by
  by_cases hq : sqE sc q = 0
  · obtain ⟨n, t, rfl, hn, hs, hs1, ht1, hst⟩ := sqE_ok hq
    rw [Int.toNat_natCast] at hst
    obtain ⟨B, rfl, hX⟩ := hc.mx (by omega)
    by_cases hin : (0 ≤ i ∧ i < (t : Int)) ∧ 0 ≤ j ∧ j < (t : Int)
    · have e : sq4E sc (n : Int) i j = 0 := by unfold sq4E; rw [if_pos hq, Int.toNat_natCast, hst, if_pos hin]
      rw [e, if_pos rfl, if_pos rfl]
      obtain ⟨⟨i0, i1⟩, j0, j1⟩ := hin
      obtain ⟨i, rfl⟩ : ∃ k : Nat, i = (k : Int) := ⟨i.toNat, by omega⟩
      obtain ⟨j, rfl⟩ : ∃ k : Nat, j = (k : Int) := ⟨j.toNat, by omega⟩
      refine (kSquare_row hX n t i j hn hs (by omega) (by omega) (fun V h5 h6 h7 b5 b6 b7 r s hrs => ?_) hT).mono ?_
      · have h1 := hX.within r s hrs
        have h2 := hc.le
        exact clo_square V h5 h6 h7 n i j b5 b6 b7 hn r s (by omega) (by omega)
      · rintro e w' ⟨B', rfl, F', hX', hlo, hf⟩
        exact ⟨_, rfl, F', .inr ⟨B', rfl, hX'⟩, hlo, hf⟩
    · have e : sq4E sc (n : Int) i j = 2 := by unfold sq4E; rw [if_pos hq, Int.toNat_natCast, hst, if_neg hin]
      rw [e, if_neg (by decide), if_neg (by decide)]
      obtain ⟨h5, hh5⟩ : ∃ h, h = w.heap.size := ⟨_, rfl⟩
      obtain ⟨h6, hh6⟩ : ∃ h, h = h5 + 1 := ⟨_, rfl⟩
      obtain ⟨h7, hh7⟩ : ∃ h, h = h6 + 1 := ⟨_, rfl⟩
      obtain ⟨W1, hW1⟩ : ∃ V, V = ((w.alloc (.cells #[.int .i64 (n : Nat)] 3)).alloc (.cells #[.int .i64 i] 3)).alloc (.cells #[.int .i64 j] 3) := ⟨_, rfl⟩
      have hf1 : Far (fun _ => False) w W1 := hW1 ▸ (((Far.refl _ w).alloc _).alloc _).alloc _
      have b5 : Bk W1 h5 3 #[.int .i64 (n : Nat)] := hW1 ▸ ((Bk.new hh5).alloc _).alloc _
      have b6 : Bk W1 h6 3 #[.int .i64 i] := hW1 ▸ (Bk.new (by simp [hh6, hh5])).alloc _
      have b7 : Bk W1 h7 3 #[.int .i64 j] := hW1 ▸ Bk.new (by simp [hh7, hh6, hh5])
      have HK := Lib.hid (show ∀ V, Far (fun _ => False) W1 V → V.cell? ⟨h5, 0, none⟩ = some (.int .i64 (n : Nat)) ∧ V.cell? ⟨h6, 0, none⟩ = some (.int .i64 i) ∧ V.cell? ⟨h7, 0, none⟩ = some (.int .i64 j) from fun V hf => ⟨(b5.far' hf id).cell 0, (b6.far' hf id).cell 0, (b7.far' hf id).cell 0⟩)
      obtain ⟨g5, g6, g7⟩ := HK.out W1 (Far.refl _ _)
      have SQ := ksquares_any (hc.still hf1) (n : Nat)
      have hh5' := Lib.hid hh5
      have hh6' := Lib.hid hh6
      have hh7' := Lib.hid hh7
      have hW1' := Lib.hid hW1
      have hf1' := Lib.hid hf1
      rw [hq] at SQ
      have SJ : ∀ k : Nat, Calls Tryd.prog 47 #[.pointer (some ⟨B, 0, none⟩)] (W1.drewN k) fun e w' => e = .returned (.int .i64 (sc : Nat)) ∧ w' = W1.drewN k := fun k => (((hX.still hf1).still ((Far.refl (fun _ => False) W1).drewN k)).side).mono fun e w' h => ⟨h.1, h.2.symm⟩
      have q0 : ((n : Int) == 0) = false := by simp; omega
      have q00 : ¬ (n : Int) = 0 := by omega
      have qn : ¬ n = 0 := by omega
      have hts : t ≤ sc := by rw [hs]; exact Nat.le_mul_of_pos_right t hn
      obtain ⟨hwt, hwt2⟩ := wrap_t (Nat.le_trans hts hc.le)
      obtain ⟨hdv2, hdv⟩ := div_t hn hs
      clear hc hX hh5 hh6 hh7 hW1 hf1 b5 b6 b7 hs hst hts hs1 e hq
      by_cases i0 : i < 0
      · clear hin
        go_enter Tryd.func41, Tryd.ntmps41
        go_upto_region 1 with fail
        rw [← hh5'.out, ← hh6'.out, ← hh7'.out, ← hW1'.out]
        go_wp2_with fail
        refine SQ.mono ?_
        rintro e w' ⟨rfl, e8⟩
        subst e8
        clear SQ
        go_upto_region 4 with fail
        go_quiet (first | (go_at_call 47; exact Calls.quiet_of_same (SJ _)))
        obtain ⟨wd, hwd⟩ : ∃ wd, wd = W1.drewN nq := ⟨_, rfl⟩
        have hfd : Far (fun _ => False) W1 wd := hwd ▸ (Far.refl (fun _ => False) W1).drewN nq
        obtain ⟨g5, g6, g7⟩ := HK.out wd hfd
        have hfd' := Lib.hid (hf1'.out.then hfd)
        rw [← hwd]
        clear hwd hfd SJ HK hdv hdv2
        go_wp2_with fail
        (try rw [Exit.noGoto_ret])
        (try simp only [Exit.inBlock, Exit.then])
        refine bodyPost_ret (v := .tuple #[.pointer none, .int .i64 2]) (by simp [results, Tryd.f41, go_sem]) rfl ?_
        exact ⟨_, rfl, _, HasF.none _, fun _ h => h.elim, hfd'.out⟩
      · by_cases i1 : (t : Int) ≤ i
        · clear hin
          go_enter Tryd.func41, Tryd.ntmps41
          go_upto_region 1 with fail
          rw [← hh5'.out, ← hh6'.out, ← hh7'.out, ← hW1'.out]
          go_wp2_with fail
          refine SQ.mono ?_
          rintro e w' ⟨rfl, e8⟩
          subst e8
          clear SQ
          go_upto_region 4 with fail
          go_quiet (first | (go_at_call 47; exact Calls.quiet_of_same (SJ _)))
          obtain ⟨wd, hwd⟩ : ∃ wd, wd = W1.drewN nq := ⟨_, rfl⟩
          have hfd : Far (fun _ => False) W1 wd := hwd ▸ (Far.refl (fun _ => False) W1).drewN nq
          obtain ⟨g5, g6, g7⟩ := HK.out wd hfd
          have hfd' := Lib.hid (hf1'.out.then hfd)
          rw [← hwd]
          clear hwd hfd SJ HK hdv hdv2
          go_wp2_with fail
          (try rw [Exit.noGoto_ret])
          (try simp only [Exit.inBlock, Exit.then])
          refine bodyPost_ret (v := .tuple #[.pointer none, .int .i64 2]) (by simp [results, Tryd.f41, go_sem]) rfl ?_
          exact ⟨_, rfl, _, HasF.none _, fun _ h => h.elim, hfd'.out⟩
        · by_cases j0 : j < 0
          · clear hin
            go_enter Tryd.func41, Tryd.ntmps41
            go_upto_region 1 with fail
            rw [← hh5'.out, ← hh6'.out, ← hh7'.out, ← hW1'.out]
            go_wp2_with fail
            refine SQ.mono ?_
            rintro e w' ⟨rfl, e8⟩
            subst e8
            clear SQ
            go_upto_region 4 with fail
            go_quiet (first | (go_at_call 47; exact Calls.quiet_of_same (SJ _)))
            obtain ⟨wd, hwd⟩ : ∃ wd, wd = W1.drewN nq := ⟨_, rfl⟩
            have hfd : Far (fun _ => False) W1 wd := hwd ▸ (Far.refl (fun _ => False) W1).drewN nq
            obtain ⟨g5, g6, g7⟩ := HK.out wd hfd
            have hfd' := Lib.hid (hf1'.out.then hfd)
            rw [← hwd]
            clear hwd hfd SJ HK hdv hdv2
            go_wp2_with fail
            (try rw [Exit.noGoto_ret])
            (try simp only [Exit.inBlock, Exit.then])
            refine bodyPost_ret (v := .tuple #[.pointer none, .int .i64 2]) (by simp [results, Tryd.f41, go_sem]) rfl ?_
            exact ⟨_, rfl, _, HasF.none _, fun _ h => h.elim, hfd'.out⟩
          · have j1 : (t : Int) ≤ j := by omega
            clear hin
            go_enter Tryd.func41, Tryd.ntmps41
            go_upto_region 1 with fail
            rw [← hh5'.out, ← hh6'.out, ← hh7'.out, ← hW1'.out]
            go_wp2_with fail
            refine SQ.mono ?_
            rintro e w' ⟨rfl, e8⟩
            subst e8
            clear SQ
            go_upto_region 4 with fail
            go_quiet (first | (go_at_call 47; exact Calls.quiet_of_same (SJ _)))
            obtain ⟨wd, hwd⟩ : ∃ wd, wd = W1.drewN nq := ⟨_, rfl⟩
            have hfd : Far (fun _ => False) W1 wd := hwd ▸ (Far.refl (fun _ => False) W1).drewN nq
            obtain ⟨g5, g6, g7⟩ := HK.out wd hfd
            have hfd' := Lib.hid (hf1'.out.then hfd)
            rw [← hwd]
            clear hwd hfd SJ HK hdv hdv2
            go_wp2_with fail
            (try rw [Exit.noGoto_ret])
            (try simp only [Exit.inBlock, Exit.then])
            refine bodyPost_ret (v := .tuple #[.pointer none, .int .i64 2]) (by simp [results, Tryd.f41, go_sem]) rfl ?_
            exact ⟨_, rfl, _, HasF.none _, fun _ h => h.elim, hfd'.out⟩
  · have e : sq4E sc q i j = sqE sc q := by unfold sq4E; rw [if_neg hq]
    rw [e, if_neg hq, if_neg hq]
    obtain ⟨h5, hh5⟩ : ∃ h, h = w.heap.size := ⟨_, rfl⟩
    obtain ⟨h6, hh6⟩ : ∃ h, h = h5 + 1 := ⟨_, rfl⟩
    obtain ⟨h7, hh7⟩ : ∃ h, h = h6 + 1 := ⟨_, rfl⟩
    obtain ⟨W1, hW1⟩ : ∃ V, V = ((w.alloc (.cells #[.int .i64 q] 3)).alloc (.cells #[.int .i64 i] 3)).alloc (.cells #[.int .i64 j] 3) := ⟨_, rfl⟩
    have hf1 : Far (fun _ => False) w W1 := hW1 ▸ (((Far.refl _ w).alloc _).alloc _).alloc _
    have b5 : Bk W1 h5 3 #[.int .i64 q] := hW1 ▸ ((Bk.new hh5).alloc _).alloc _
    have b6 : Bk W1 h6 3 #[.int .i64 i] := hW1 ▸ (Bk.new (by simp [hh6, hh5])).alloc _
    have b7 : Bk W1 h7 3 #[.int .i64 j] := hW1 ▸ Bk.new (by simp [hh7, hh6, hh5])
    have HK := Lib.hid (show ∀ V, Far (fun _ => False) W1 V → V.cell? ⟨h5, 0, none⟩ = some (.int .i64 q) ∧ V.cell? ⟨h6, 0, none⟩ = some (.int .i64 i) ∧ V.cell? ⟨h7, 0, none⟩ = some (.int .i64 j) from fun V hf => ⟨(b5.far' hf id).cell 0, (b6.far' hf id).cell 0, (b7.far' hf id).cell 0⟩)
    obtain ⟨g5, g6, g7⟩ := HK.out W1 (Far.refl _ _)
    have SQ := ksquares_any (hc.still hf1) q
    have hh5' := Lib.hid hh5
    have hh6' := Lib.hid hh6
    have hh7' := Lib.hid hh7
    have hW1' := Lib.hid hW1
    have hf1' := Lib.hid hf1
    obtain ⟨E, hE⟩ : ∃ E, sqE sc q = E := ⟨_, rfl⟩
    rw [hE] at SQ hq ⊢
    have E0 := nat_beq0 hq
    have E1 : ((E : Int) != 0) = true := by simp; omega
    have E2 : ¬ (E : Int) = 0 := by omega
    clear hc hh5 hh6 hh7 hW1 hf1 b5 b6 b7 HK e hq hE
    go_enter Tryd.func41, Tryd.ntmps41
    go_upto_region 1 with fail
    rw [← hh5'.out, ← hh6'.out, ← hh7'.out, ← hW1'.out]
    go_wp2_with fail
    refine SQ.mono ?_
    rintro e w' ⟨rfl, e8⟩
    subst e8
    clear SQ
    go_wp2_with fail
    (try rw [Exit.noGoto_ret])
    (try simp only [Exit.inBlock, Exit.then])
    refine bodyPost_ret (v := .tuple #[.pointer none, .int .i64 (E : Nat)]) (by simp [results, Tryd.f41, go_sem]) rfl ?_
    exact ⟨_, rfl, _, HasF.none _, fun _ h => h.elim, hf1'.out⟩
theorem kOuter_any {w : World} {v : Value} {F : Nat → Prop} {sc : Nat} {C : Nat → Nat → Bool} (hc : HasF w v F sc C) (q : Int) (hT : Tab w) : Calls Tryd.prog 42 #[v, .int .i64 q] w fun e w' => ∃ v', e = .returned (.tuple #[v', .int .i64 (sqE sc q : Nat)]) ∧ ∃ F', HasF w' v' F' (if sqE sc q = 0 then sc / q.toNat else 0) (if sqE sc q = 0 then outM C sc q.toNat else zeroM) ∧ (∀ k, F' k → w.heap.size ≤ k) ∧ Far (fun _ => False) w w' := by
  obtain ⟨h3, hh3⟩ : ∃ h, h = w.heap.size := ⟨_, rfl⟩
  obtain ⟨W1, hW1⟩ : ∃ V, V = w.alloc (.cells #[.int .i64 q] 3) := ⟨_, rfl⟩
  have hf1 : Far (fun _ => False) w W1 := hW1 ▸ (Far.refl _ w).alloc _
  have b3 : Bk W1 h3 3 #[.int .i64 q] := hW1 ▸ Bk.new hh3
  have g3 : W1.cell? ⟨h3, 0, none⟩ = some (.int .i64 q) := b3.cell 0
  have SQ := ksquares_any (hc.still hf1) q
  have hh3' := Lib.hid hh3
  have hW1' := Lib.hid hW1
  have hf1' := Lib.hid hf1
  by_cases hq : sqE sc q = 0
  · obtain ⟨n, t, rfl, hn, hs, hs1, ht1, hst⟩ := sqE_ok hq
    rw [Int.toNat_natCast] at hst
    obtain ⟨B, rfl, hX⟩ := hc.mx (by omega)
    have hle := hc.le
    rw [hq] at SQ ⊢
    rw [if_pos rfl, if_pos rfl, Int.toNat_natCast]
    have hwc := hX.within
    have hts : t ≤ sc := by rw [hs]; exact Nat.le_mul_of_pos_right t hn
    have hns : n ≤ sc := by rw [hs]; exact Nat.le_mul_of_pos_left n ht1
    have MD := Lib.hid (fun (V : World) (hf : Far (fun _ => False) W1 V) => kmade_any ((hX.still hf1).still hf) t (by omega) (by omega) 94 #[.pointer (some ⟨h3, 0, none⟩)] (fun r s => r / n) (fun r s => s / n) (fun _ _ => true) (enters_of Tryd.func94 (by kernel_rfl) rfl)
      (fun r s hrs V2 hf2 => clo_outer V2 h3 n ((b3.far' hf id).far' hf2 id) hn r s (by have := hwc r s hrs; omega) (by have := hwc r s hrs; omega))
      (fun r s hrs _ => by
        have h9 := hwc r s hrs
        rw [← hst]; exact ⟨Nat.div_lt_div_of_lt_of_dvd ⟨t, by rw [hs, Nat.mul_comm]⟩ h9.1, Nat.div_lt_div_of_lt_of_dvd ⟨t, by rw [hs, Nat.mul_comm]⟩ h9.2⟩) ((hT.still hf1).still hf))
    have q0 : ((n : Int) == 0) = false := by simp; omega
    have q00 : ¬ (n : Int) = 0 := by omega
    have qn : ¬ n = 0 := by omega
    obtain ⟨hwt, hwt2⟩ := wrap_t (Nat.le_trans hts hle)
    obtain ⟨hdv2, hdv⟩ := div_t hn hs
    have SJ := Lib.hid (fun (V : World) (hf : Far (fun _ => False) W1 V) => ((hX.still hf1).still hf).side)
    have HK := Lib.hid (show ∀ V, Far (fun _ => False) W1 V → V.cell? ⟨h3, 0, none⟩ = some (.int .i64 (n : Nat)) from fun V hf => (b3.far' hf id).cell 0)
    rw [hst]
    clear hc hX hh3 hW1 hf1 b3 hwc hs hst hts hs1 hq hns hle
    go_enter Tryd.func42, Tryd.ntmps42
    go_upto_region 1 with fail
    rw [← hh3'.out, ← hW1'.out]
    go_wp2_with fail
    refine SQ.mono ?_
    rintro e w' ⟨rfl, e8⟩
    subst e8
    clear SQ
    have hfd := Lib.hid ((Far.refl (fun _ => False) W1).drew)
    go_upto_region 4 with fail
    go_region_held3 (fun V => V.cell? ⟨h3, 0, none⟩ = some (.int .i64 (n : Nat))) (first | exact HK.out _ hf9.out | exact HK.out _ hfd.out | go_keep)
      (first
        | (go_at_call 47; (with_reducible refine (SJ.out _ hfd.out).mono ?_); rintro e w8 ⟨rfl, e9⟩; replace e9 := e9.symm; subst e9)
        | (go_at_call 92; (with_reducible refine (MD.out _ hfd.out).mono ?_); rintro e w9 ⟨B', rfl, F', hX9, hlo, hf⟩; have hf9 := Lib.hid (hfd.out.then hf); have hX9' := Lib.hid hX9; have hlo' := Lib.hid hlo; clear hX9 hlo hf))
    all_goals
      go_wp2_with fail
      (try rw [Exit.noGoto_ret])
      (try simp only [Exit.inBlock, Exit.then])
      refine bodyPost_ret (v := .tuple #[.pointer (some ⟨B', 0, none⟩), .int .i64 0]) (by simp [results, Tryd.f42, go_sem]) rfl ?_
      exact ⟨_, rfl, F', .inr ⟨B', rfl, hX9'.out⟩, fun k hk => Nat.le_trans (hf1'.out.then hfd.out).size (hlo'.out k hk), hf1'.out.then hf9.out⟩
  · rw [if_neg hq, if_neg hq]
    obtain ⟨E, hE⟩ : ∃ E, sqE sc q = E := ⟨_, rfl⟩
    rw [hE] at SQ hq ⊢
    have E0 := nat_beq0 hq
    have E1 : ((E : Int) != 0) = true := by simp; omega
    have E2 : ¬ (E : Int) = 0 := by omega
    clear hc hh3 hW1 hf1 b3 hq hE
    go_enter Tryd.func42, Tryd.ntmps42
    go_upto_region 1 with fail
    rw [← hh3'.out, ← hW1'.out]
    go_wp2_with fail
    refine SQ.mono ?_
    rintro e w' ⟨rfl, e8⟩
    subst e8
    clear SQ
    go_wp2_with fail
    (try rw [Exit.noGoto_ret])
    (try simp only [Exit.inBlock, Exit.then])
    refine bodyPost_ret (v := .tuple #[.pointer none, .int .i64 (E : Nat)]) (by simp [results, Tryd.f42, go_sem]) rfl ?_
    exact ⟨_, rfl, _, HasF.none _, fun _ h => h.elim, hf1'.out⟩
theorem kInner_any {w : World} {v : Value} {F : Nat → Prop} {sc : Nat} {C : Nat → Nat → Bool} (hc : HasF w v F sc C) (q : Int) (hT : Tab w) : Calls Tryd.prog 43 #[v, .int .i64 q] w fun e w' => ∃ v', e = .returned (.tuple #[v', .int .i64 (sqE sc q : Nat)]) ∧ ∃ F', HasF w' v' F' (if sqE sc q = 0 then q.toNat else 0) (if sqE sc q = 0 then innM C sc q.toNat else zeroM) ∧ (∀ k, F' k → w.heap.size ≤ k) ∧ Far (fun _ => False) w w' := by
  obtain ⟨h3, hh3⟩ : ∃ h, h = w.heap.size := ⟨_, rfl⟩
  obtain ⟨W1, hW1⟩ : ∃ V, V = w.alloc (.cells #[.int .i64 q] 3) := ⟨_, rfl⟩
  have hf1 : Far (fun _ => False) w W1 := hW1 ▸ (Far.refl _ w).alloc _
  have b3 : Bk W1 h3 3 #[.int .i64 q] := hW1 ▸ Bk.new hh3
  have g3 : W1.cell? ⟨h3, 0, none⟩ = some (.int .i64 q) := b3.cell 0
  have SQ := ksquares_any (hc.still hf1) q
  have hh3' := Lib.hid hh3
  have hW1' := Lib.hid hW1
  have hf1' := Lib.hid hf1
  by_cases hq : sqE sc q = 0
  · obtain ⟨n, t, rfl, hn, hs, hs1, ht1, hst⟩ := sqE_ok hq
    rw [Int.toNat_natCast] at hst
    obtain ⟨B, rfl, hX⟩ := hc.mx (by omega)
    have hle := hc.le
    rw [hq] at SQ ⊢
    rw [if_pos rfl, if_pos rfl, Int.toNat_natCast]
    have hwc := hX.within
    have hts : t ≤ sc := by rw [hs]; exact Nat.le_mul_of_pos_right t hn
    have hns : n ≤ sc := by rw [hs]; exact Nat.le_mul_of_pos_left n ht1
    have MD := Lib.hid (fun (V : World) (hf : Far (fun _ => False) W1 V) => kmade_any ((hX.still hf1).still hf) n (by omega) (by omega) 95 #[.pointer (some ⟨h3, 0, none⟩)] (fun r s => r % n) (fun r s => s % n) (fun _ _ => true) (enters_of Tryd.func95 (by kernel_rfl) rfl)
      (fun r s hrs V2 hf2 => clo_inner V2 h3 n ((b3.far' hf id).far' hf2 id) hn r s (by have := hwc r s hrs; omega) (by have := hwc r s hrs; omega))
      (fun r s hrs _ => by
        have h9 := hwc r s hrs
        exact ⟨Nat.mod_lt _ hn, Nat.mod_lt _ hn⟩) ((hT.still hf1).still hf))
    have q0 : ((n : Int) == 0) = false := by simp; omega
    have q00 : ¬ (n : Int) = 0 := by omega
    have qn : ¬ n = 0 := by omega
    obtain ⟨hwt, hwt2⟩ := wrap_t (Nat.le_trans hts hle)
    obtain ⟨hdv2, hdv⟩ := div_t hn hs
    have SJ := Lib.hid (fun (V : World) (hf : Far (fun _ => False) W1 V) => ((hX.still hf1).still hf).side)
    have HK := Lib.hid (show ∀ V, Far (fun _ => False) W1 V → V.cell? ⟨h3, 0, none⟩ = some (.int .i64 (n : Nat)) from fun V hf => (b3.far' hf id).cell 0)
    skip
    clear hc hX hh3 hW1 hf1 b3 hwc hs hst hts hs1 hq hns hle
    go_enter Tryd.func43, Tryd.ntmps43
    go_upto_region 1 with fail
    rw [← hh3'.out, ← hW1'.out]
    go_wp2_with fail
    refine SQ.mono ?_
    rintro e w' ⟨rfl, e8⟩
    subst e8
    clear SQ
    have MD1 := MD.out W1 (Far.refl _ _)
    clear MD SJ HK hdv hdv2
    go_wp2_with fail
    refine MD1.mono ?_
    rintro e w9 ⟨B', rfl, F', hX9, hlo, hf9⟩
    have hf9' := Lib.hid hf9
    have hX9' := Lib.hid hX9
    have hlo' := Lib.hid hlo
    clear MD1 hX9 hlo hf9 g3
    go_wp2_with fail
    (try rw [Exit.noGoto_ret])
    (try simp only [Exit.inBlock, Exit.then])
    refine bodyPost_ret (v := .tuple #[.pointer (some ⟨B', 0, none⟩), .int .i64 0]) (by simp [results, Tryd.f43, go_sem]) rfl ?_
    exact ⟨_, rfl, F', .inr ⟨B', rfl, hX9'.out⟩, fun k hk => Nat.le_trans hf1'.out.size (hlo'.out k hk), hf1'.out.then hf9'.out⟩
  · rw [if_neg hq, if_neg hq]
    obtain ⟨E, hE⟩ : ∃ E, sqE sc q = E := ⟨_, rfl⟩
    rw [hE] at SQ hq ⊢
    have E0 := nat_beq0 hq
    have E1 : ((E : Int) != 0) = true := by simp; omega
    have E2 : ¬ (E : Int) = 0 := by omega
    clear hc hh3 hW1 hf1 b3 hq hE
    go_enter Tryd.func43, Tryd.ntmps43
    go_upto_region 1 with fail
    rw [← hh3'.out, ← hW1'.out]
    go_wp2_with fail
    refine SQ.mono ?_
    rintro e w' ⟨rfl, e8⟩
    subst e8
    clear SQ
    go_wp2_with fail
    (try rw [Exit.noGoto_ret])
    (try simp only [Exit.inBlock, Exit.then])
    refine bodyPost_ret (v := .tuple #[.pointer none, .int .i64 (E : Nat)]) (by simp [results, Tryd.f43, go_sem]) rfl ?_
    exact ⟨_, rfl, _, HasF.none _, fun _ h => h.elim, hf1'.out⟩
end
end Go.Proofs.YtkobbcmndneajaaDoor
/-! ## QKSqR: The document's Square: one square of a matrix. -/
namespace Go.Proofs.YtkobbcmndneajaaDoor
open Go.RowKit Go.Shelf
set_option linter.unusedVariables false
set_option linter.unusedSimpArgs false
/-- The cells of one square, so far. -/
def sqL (q i j : Nat) (L : List (Nat × Nat)) : List (Nat × Nat) := mkL (fun r s => r % q) (fun r s => s % q) (fun r s => decide (r / q = i) && decide (s / q = j)) L
theorem sqL_nil (q i j : Nat) : sqL q i j [] = [] := rfl
theorem sqL_le (q i j : Nat) (L : List (Nat × Nat)) : (sqL q i j L).length ≤ L.length := by
  unfold sqL mkL
  rw [List.length_map]
  exact List.length_filter_le _ _
theorem sqL_step {q i j k : Nat} {L : List (Nat × Nat)} {r s : Nat} (h : L[k]? = some (r, s)) : sqL q i j (L.take (k + 1)) = if (decide (r / q = i) && decide (s / q = j)) = true then sqL q i j (L.take k) ++ [(r % q, s % q)] else sqL q i j (L.take k) := by
  unfold sqL
  rw [List.take_add_one, h, Option.toList_some, mkL_app]
theorem addL_zero (L : List (Nat × Nat)) (r c : Nat) : addL zeroM L r c = true ↔ (r, c) ∈ L := by simp [addL, zeroM]
theorem sqL_mem {C : Nat → Nat → Bool} {sc q i j : Nat} (hq : 1 ≤ q) (hC : ∀ r c, C r c = true → r < sc ∧ c < sc) (x : Nat × Nat) : x ∈ sqL q i j (cellsL C sc) ↔ sqM C q i j x.1 x.2 = true := by
  rw [sq_cells (t := 0) hq hC x.1 x.2, addL_zero]
  rfl
theorem sqL_rise {C : Nat → Nat → Bool} {sc q i j : Nat} : (sqL q i j (cellsL C sc)).Pairwise lexLt := by
  unfold sqL mkL
  rw [List.pairwise_map]
  refine ((cellsK_rise C sc sc).filter _).imp_of_mem ?_
  intro x y hx hy h
  have h1 := (List.mem_filter.1 hx).2
  have h2 := (List.mem_filter.1 hy).2
  rw [Bool.and_eq_true, decide_eq_true_eq, decide_eq_true_eq] at h1 h2
  have a1 := Nat.div_add_mod x.1 q
  have a2 := Nat.div_add_mod x.2 q
  have b1 := Nat.div_add_mod y.1 q
  have b2 := Nat.div_add_mod y.2 q
  rw [h1.1] at a1
  rw [h1.2] at a2
  rw [h2.1] at b1
  rw [h2.2] at b2
  unfold lexLt at h ⊢
  dsimp only
  omega
theorem sub_mul {r q i : Nat} (h : r / q = i) : (r : Int) - ((i * q : Nat) : Int) = ((r % q : Nat) : Int) := by
  have := Nat.div_add_mod r q
  rw [h, Nat.mul_comm] at this
  omega
section
set_option maxHeartbeats 4000000
set_option maxRecDepth 100000
theorem rwrong_any (w : World) (sc : Nat) (ao : Option Addr) (n cap : Nat) (q : Int) : Calls Tryd.prog 96 #[.agg #[.int .i64 (sc : Nat), .slice ao n cap], .int .i64 q] w fun e w' => e = .returned (.int .i64 (sqE sc q : Nat)) ∧ Far (fun _ => False) w w' := by
  obtain ⟨h2, hh2⟩ : ∃ h, h = w.heap.size := ⟨_, rfl⟩
  obtain ⟨W0, hW0⟩ : ∃ V, V = w.alloc (.cells #[.int .i64 (sc : Nat), .slice ao n cap] 28) := ⟨_, rfl⟩
  have hF0 := Lib.hid (show Far (fun _ => False) w W0 from hW0 ▸ (Far.refl _ w).alloc _)
  have hB2 : Bk W0 h2 28 #[.int .i64 (sc : Nat), .slice ao n cap] := hW0 ▸ Bk.new hh2
  have c2 : W0.cell? ⟨h2, 0, none⟩ = some (.int .i64 (sc : Nat)) := hB2.cell 0
  have hh2' := Lib.hid hh2
  have hW0' := Lib.hid hW0
  clear hh2 hW0 hB2
  by_cases h0 : sc = 0
  · have e : sqE sc q = 1 := by unfold sqE; rw [if_pos h0]
    rw [e]
    have a0 : ((sc : Int) == 0) = true := by simp; omega
    clear h0 e
    go_enter Tryd.func96, Tryd.ntmps96
    go_upto_region 1 with fail
    rw [← hh2'.out, ← hW0'.out]
    go_wp2_with fail
    go_ret
    exact ⟨rfl, hF0.out⟩
  · have a0 := nat_beq0 h0
    by_cases h1 : q < 1
    · have e : sqE sc q = 5 := by unfold sqE; rw [if_neg h0, if_pos (.inl h1)]
      rw [e]
      clear h0 e
      go_enter Tryd.func96, Tryd.ntmps96
      go_upto_region 1 with fail
      rw [← hh2'.out, ← hW0'.out]
      go_wp2_with fail
      go_ret
      exact ⟨rfl, hF0.out⟩
    · obtain ⟨m, rfl⟩ : ∃ m : Nat, q = (m : Int) := ⟨q.toNat, by omega⟩
      have hm := rem_n sc m
      have hmn : ¬ m = 0 := by omega
      have hmi : ¬ (m : Int) = 0 := by omega
      obtain ⟨x, hx⟩ : ∃ x, sc % m = x := ⟨_, rfl⟩
      rw [hx] at hm
      obtain ⟨m1, m2⟩ := hm
      have hxs : x ≤ sc ∧ x ≤ m := by rw [← hx]; exact ⟨Nat.mod_le _ _, Nat.le_of_lt (Nat.mod_lt _ (by omega))⟩
      by_cases h2 : x = 0
      · have e : sqE sc (m : Int) = 0 := by unfold sqE; rw [if_neg h0, if_neg]; rintro (h | h); exact h1 h; exact h (hx.trans h2)
        rw [e]
        subst h2
        have x1 : ((0 : Int) != 0) = false := by decide
        clear h0 e hx hxs
        go_enter Tryd.func96, Tryd.ntmps96
        go_upto_region 1 with fail
        rw [← hh2'.out, ← hW0'.out]
        go_wp2_with fail
        go_ret
        exact ⟨rfl, hF0.out⟩
      · have e : sqE sc (m : Int) = 5 := by unfold sqE; rw [if_neg h0, if_pos (.inr (by rw [Int.toNat_natCast, hx]; exact h2))]
        rw [e]
        have x1 : ((x : Int) != 0) = true := by simp; omega
        have x2 : ¬ (x : Int) = 0 := by omega
        have x3 := nat_beq0 h2
        clear h0 e hx hxs h2
        go_enter Tryd.func96, Tryd.ntmps96
        go_upto_region 1 with fail
        rw [← hh2'.out, ← hW0'.out]
        go_wp2_with fail
        go_ret
        exact ⟨rfl, hF0.out⟩
theorem rSquare_any {w : World} {v : Value} {sc : Nat} {C : Nat → Nat → Bool} (hc : Dm w v sc C) (q i j : Int) : Calls Tryd.prog 44 #[v, .int .i64 q, .int .i64 i, .int .i64 j] w fun e w' => ∃ v', e = .returned (.tuple #[v', .int .i64 (sq4E sc q i j : Nat)]) ∧ Dm w' v' (if sq4E sc q i j = 0 then q.toNat else 0) (if sq4E sc q i j = 0 then sqM C q.toNat i.toNat j.toNat else zeroM) ∧ Far (fun _ => False) w w' := by
  have hlen := hc.len
  obtain ⟨ao, cap, rfl, hP, hcap, hsc, hw⟩ := hc
  have hmL : ∀ (k : Nat) (x : Nat × Nat), (cellsL C sc)[k]? = some x → x.1 < sc ∧ x.2 < sc := fun k x h => hw _ _ ((mem_cellsL hw).1 (List.mem_of_getElem? h))
  obtain ⟨n, hn⟩ : ∃ n, (cellsL C sc).length = n := ⟨_, rfl⟩
  rw [hn] at hlen hcap ⊢
  have hrise := fun q i j : Nat => sqL_rise (C := C) (sc := sc) (q := q) (i := i) (j := j)
  have hmem := fun (q i j : Nat) (hq : 1 ≤ q) => sqL_mem (q := q) (i := i) (j := j) hq hw
  obtain ⟨L, hL⟩ : ∃ L, cellsL C sc = L := ⟨_, rfl⟩
  rw [hL] at hP hmL hn hrise hmem
  obtain ⟨h4, hh4⟩ : ∃ h, h = w.heap.size := ⟨_, rfl⟩
  obtain ⟨h8, hh8⟩ : ∃ h, h = h4 + 1 := ⟨_, rfl⟩
  obtain ⟨W0, hW0⟩ : ∃ V, V = (w.alloc (.cells #[.int .i64 (sc : Nat), .slice ao n cap] 28)).alloc (.cells #[.int .i64 0, .slice none 0 0] 28) := ⟨_, rfl⟩
  have hF0 : Far (fun _ => False) w W0 := hW0 ▸ ((Far.refl _ w).alloc _).alloc _
  have hB4 : Bk W0 h4 28 #[.int .i64 (sc : Nat), .slice ao n cap] := hW0 ▸ (Bk.new hh4).alloc _
  have hB8 : Bk W0 h8 28 #[.int .i64 0, .slice none 0 0] := hW0 ▸ Bk.new (by simp [hh8, hh4])
  have HB := Lib.hid (show ∀ V, Far (fun _ => False) W0 V → (V.cell? ⟨h4, 0, none⟩ = some (.int .i64 (sc : Nat)) ∧ V.cell? ⟨h4, 1, none⟩ = some (.slice ao n cap)) ∧ V.cell? ⟨h8, 0, none⟩ = some (.int .i64 0) ∧ V.cell? ⟨h8, 1, none⟩ = some (.slice none 0 0) ∧ V.frozen? ⟨h8, 0, none⟩ = false ∧ V.frozen? ⟨h8, 1, none⟩ = false from fun V hf => ⟨⟨(hB4.far' hf id).cell 0, (hB4.far' hf id).cell 1⟩, (hB8.far' hf id).cell 0, (hB8.far' hf id).cell 1, (hB8.far' hf id).free 0, (hB8.far' hf id).free 1⟩)
  have HP := Lib.hid (show ∀ V, Far (fun _ => False) W0 V → PL V ao L from fun V hf => hP.move (hF0.then hf))
  obtain ⟨⟨z40, z41⟩, _⟩ := HB.out W0 (Far.refl _ _)
  have WR := rwrong_any W0 sc ao n cap q
  have n84 : h8 ≠ h4 := by omega
  have n48 : h4 ≠ h8 := by omega
  have hlo := Lib.hid (show w.heap.size ≤ h8 by omega)
  have hB8' := Lib.hid hB8
  have hh4' := Lib.hid hh4
  have hh8' := Lib.hid hh8
  have hW0' := Lib.hid hW0
  have hF0' := Lib.hid hF0
  have hmL' := Lib.hid hmL
  have hn' := Lib.hid hn
  have hrise' := Lib.hid hrise
  have hmem' := Lib.hid hmem
  have hw' := Lib.hid hw
  clear hP hw hmL hn hL hrise hmem hh4 hh8 hW0 hF0 hB4 hB8
  by_cases hE : sqE sc q = 0
  · obtain ⟨m, t, rfl, hm, hs, hs1, ht1, hst⟩ := sqE_ok hE
    rw [Int.toNat_natCast] at hst
    have hdn := quo_n sc m hm
    rw [hst] at hdn
    obtain ⟨hdv, hdv2⟩ := hdn
    have hms : m ≤ sc := by rw [hs]; exact Nat.le_mul_of_pos_left m ht1
    have hts : t ≤ sc := by rw [hs]; exact Nat.le_mul_of_pos_right t hm
    have hwt := wrap_s (m := t) (by omega)
    have hmn : ¬ m = 0 := by omega
    have hmi : ¬ (m : Int) = 0 := by omega
    have m0 := nat_beq0 hmn
    rw [hE] at WR
    have hs' := Lib.hid hs
    clear hs hs1
    by_cases hin : (0 ≤ i ∧ i < (t : Int)) ∧ 0 ≤ j ∧ j < (t : Int)
    · have e : sq4E sc (m : Int) i j = 0 := by unfold sq4E; rw [if_pos hE, Int.toNat_natCast, hst, if_pos hin]
      rw [e, if_pos rfl, if_pos rfl, Int.toNat_natCast]
      clear e hE hst
      obtain ⟨⟨i0, i1⟩, j0, j1⟩ := hin
      obtain ⟨i, rfl⟩ : ∃ k : Nat, i = (k : Int) := ⟨i.toNat, by omega⟩
      obtain ⟨j, rfl⟩ : ∃ k : Nat, j = (k : Int) := ⟨j.toNat, by omega⟩
      rw [Int.toNat_natCast, Int.toNat_natCast]
      have i2 : ¬ (i : Int) < 0 := by omega
      have j2 : ¬ (j : Int) < 0 := by omega
      have i3 : ¬ (t : Int) ≤ (i : Int) := by omega
      have j3 : ¬ (t : Int) ≤ (j : Int) := by omega
      obtain ⟨m1, hm1⟩ : ∃ k, k = i * m := ⟨_, rfl⟩
      obtain ⟨m2, hm2⟩ : ∃ k, k = j * m := ⟨_, rfl⟩
      have hmu1 : (i : Int) * (m : Int) = (m1 : Int) := by rw [hm1, Int.natCast_mul]
      have hmu2 : (j : Int) * (m : Int) = (m2 : Int) := by rw [hm2, Int.natCast_mul]
      have hm1b : m1 ≤ 4194304 := by
        have : i * m ≤ t * m := Nat.mul_le_mul_right _ (by omega)
        have := hs'.out
        omega
      have hm2b : m2 ≤ 4194304 := by
        have : j * m ≤ t * m := Nat.mul_le_mul_right _ (by omega)
        have := hs'.out
        omega
      have hw1 := wrap_s hm1b
      have hw2 := wrap_s hm2b
      have hm1' := Lib.hid hm1
      have hm2' := Lib.hid hm2
      clear hm1 hm2
      go_enter Tryd.func44, Tryd.ntmps44
      go_upto_region 1 with fail
      rw [← hh4'.out, ← hh8'.out, ← hW0'.out]
      go_wp2_with fail
      refine WR.mono ?_
      rintro e W1 ⟨rfl, hf1⟩
      obtain ⟨⟨y40, y41⟩, y80, y81, yf0, yf1⟩ := HB.out W1 hf1
      have hf1' := Lib.hid hf1
      clear WR hf1 z40 z41
      go_wp2_with fail
      clear y40 y41
      go_loopw [11, 12] (fun lv kv wr => ∃ k : Nat, k ≤ n ∧ kv = .int .i64 (k : Nat) ∧ wr.ownsRow W0.heap.size 82 2 lv (sqL m i j (L.take k)).length (ccells (sqL m i j (L.take k))) ∧ Far (fun _ => False) W0 wr) (fun _ kv _ => n - (intOf kv).toNat)
      case atStart => exact ⟨0, Nat.zero_le _, rfl, World.ownsRow_nil _ _ _ _, hf1'.out⟩
      case round =>
        obtain ⟨k, hk, rfl, hO, hf⟩ := hrel
        obtain ⟨wd, hwd⟩ : ∃ wd, wd = wr := ⟨_, rfl⟩
        rw [← hwd] at hO hf ⊢
        clear hwd
        obtain ⟨⟨b40, b41⟩, _⟩ := HB.out wd hf
        by_cases hlt : k < n
        · have hki : (k : Int) < (n : Int) := by omega
          have hkb : (k : Int) + 1 ≤ 9223372036854775807 := by omega
          obtain ⟨⟨r, s⟩, hx⟩ := atS (l := L) (k := k) (by rw [hn'.out]; exact hlt)
          obtain ⟨hr, hs9⟩ := hmL'.out k _ hx
          obtain ⟨ga, oa, rfl, hga, pa0, pa1⟩ := (HP.out wd hf).at hx
          have hst := sqL_step (q := m) (i := i) (j := j) hx
          obtain ⟨a1, a2⟩ := quo_n r m hm
          obtain ⟨b1, b2⟩ := quo_n s m hm
          have su1 := fun h : r / m = i => sub_mul h
          have su2 := fun h : s / m = j => sub_mul h
          have hx1 : r / m ≤ 4194304 := Nat.le_trans (Nat.div_le_self _ _) (by omega)
          have hy1 : s / m ≤ 4194304 := Nat.le_trans (Nat.div_le_self _ _) (by omega)
          have hu1 : r % m ≤ 4194304 := Nat.le_trans (Nat.mod_le _ _) (by omega)
          have hv1 : s % m ≤ 4194304 := Nat.le_trans (Nat.mod_le _ _) (by omega)
          rw [← hm1'.out] at su1
          rw [← hm2'.out] at su2
          obtain ⟨x, hxx⟩ : ∃ x, r / m = x := ⟨_, rfl⟩
          obtain ⟨y, hyy⟩ : ∃ y, s / m = y := ⟨_, rfl⟩
          obtain ⟨u, huu⟩ : ∃ u, r % m = u := ⟨_, rfl⟩
          obtain ⟨v, hvv⟩ : ∃ v, s % m = v := ⟨_, rfl⟩
          rw [hxx, hyy, huu, hvv] at hst
          rw [hxx] at a1 a2 su1 hx1
          rw [hyy] at b1 b2 su2 hy1
          rw [huu] at su1 hu1
          rw [hvv] at su2 hv1
          clear hxx hyy huu hvv
          have wx := wrap_s hx1
          have wy := wrap_s hy1
          have wu := wrap_s hu1
          have wv := wrap_s hv1
          obtain ⟨bx, hhx⟩ : ∃ h, h = wd.heap.size := ⟨_, rfl⟩
          obtain ⟨we, hwe⟩ : ∃ V, V = wd.alloc (.cells #[.int .i64 (r : Nat), .int .i64 (s : Nat)] 82) := ⟨_, rfl⟩
          have hBx : Bk we bx 82 #[.int .i64 (r : Nat), .int .i64 (s : Nat)] := hwe ▸ Bk.new hhx
          have hfe : Far (fun _ => False) wd we := hwe ▸ (Far.refl _ wd).alloc _
          have x0 : we.cell? ⟨bx, 0, none⟩ = some (.int .i64 (r : Nat)) := hBx.cell 0
          have x1 : we.cell? ⟨bx, 1, none⟩ = some (.int .i64 (s : Nat)) := hBx.cell 1
          obtain ⟨O, hOO⟩ : ∃ O, O = sqL m i j (L.take k) := ⟨_, rfl⟩
          obtain ⟨c, hcc⟩ : ∃ c, c = O.length := ⟨_, rfl⟩
          have hcn : c ≤ n := by
            rw [hcc, hOO]
            exact Nat.le_trans (sqL_le _ _ _ _) (by rw [List.length_take]; omega)
          rw [← hOO] at hst hO
          rw [← hcc] at hO
          obtain ⟨oo, oc, rfl⟩ := q_form hO
          have hOe := row_same hO fun q _ hl => hfe.block q hl id
          have hO' := Lib.hid hOe
          have hfw := Lib.hid (hf.then hfe)
          have hst' := Lib.hid hst
          have hcc' := Lib.hid hcc
          have hhx' := Lib.hid hhx
          have hwe' := Lib.hid hwe
          clear hx hst hO hf hOO hcc hhx hwe hBx hfe hOe
          go_upto_region 11 with fail
          rw [← hhx'.out, ← hwe'.out]
          clear b40 b41 pa0 pa1
          by_cases hi : x = i
          · subst hi
            have ib : ((x : Int) == (x : Int)) = true := by simp
            have su1 := su1 rfl
            by_cases hj : y = j
            · subst hj
              have jb : ((y : Int) == (y : Int)) = true := by simp
              have su2 := su2 rfl
              obtain ⟨ci, hci, hz0, hz1, hz2⟩ := info_parts cellInfo
              have C1 := Lib.hid (World.ownsRow.alloc hO'.out (.cells #[.int .i64 (u : Nat), .int .i64 (v : Nat)] 82))
              have C7 := Lib.hid (World.news_of_block (w := we.alloc (.cells #[.int .i64 (u : Nat), .int .i64 (v : Nat)] 82)) (cs := #[.int .i64 (u : Nat), .int .i64 (v : Nat)]) (t := 82) (fr := (0, 0)) (heap_alloc_new we _))
              have C3 := Lib.hid (show ∀ u9 ∈ [(.int .i64 (u : Nat) : Value), .int .i64 (v : Nat)], u9.oneCell' = true by simp [Value.oneCell'])
              have C4 : c + 1 ≤ maxLen := by unfold maxLen; omega
              have C5 : (c + 1) * 16 ≤ 140737488355328 := by omega
              have C6 : W0.heap.size ≤ (we.alloc (.cells #[.int .i64 (u : Nat), .int .i64 (v : Nat)] 82)).heap.size := by have := hfw.out.size; simp; omega
              go_wp2_with (at_builtin; refine wpList_append_own _ rfl _ _ 26 rfl W0.heap.size 82 ci _ 2 16 Tryd.underlying26 hci hz0 hz1 hz2 rfl (by decide) (.slice oo c oc) c _ rfl C1.out ⟨we.heap.size, 0, none⟩ 1 1 [.int .i64 (u : Nat), .int .i64 (v : Nat)] rfl rfl C7.out C3.out C4 C5 C6 ?_; intro v2 w6 ho6 hg6 hn6; have ho6' := Lib.hid ho6; have hg6' := Lib.hid hg6; clear ho6 hg6 hn6)
              have fa := Lib.hid ((hfw.out.alloc _).trans (grown_F hg6'.out) fun q hq e => by have := (own_type hO'.out e).1; omega : Far (fun _ => False) W0 w6)
              have hfin := Lib.hid (show w6.ownsRow W0.heap.size 82 2 v2 (sqL m x y (L.take (k + 1))).length (ccells (sqL m x y (L.take (k + 1)))) by
                rw [hst'.out, if_pos (by simp), ccells_app, List.length_append, List.length_singleton, ← hcc'.out]
                exact ho6'.out)
              go_roundw
              case rel => exact ⟨k + 1, by omega, by go_num, hfin.out, fa.out⟩
              case measure => simp only [intOf]; omega
            · have jb : ((y : Int) == (j : Int)) = false := by simp; omega
              have hfin := Lib.hid (show we.ownsRow W0.heap.size 82 2 (.slice oo c oc) (sqL m x j (L.take (k + 1))).length (ccells (sqL m x j (L.take (k + 1)))) by
                rw [hst'.out, if_neg (by simp [hj]), ← hcc'.out]
                exact hO'.out)
              clear su2
              go_wp2_with fail
              go_roundw
              case rel => exact ⟨k + 1, by omega, by go_num, hfin.out, hfw.out⟩
              case measure => simp only [intOf]; omega
          · have ib : ((x : Int) == (i : Int)) = false := by simp; omega
            have hfin := Lib.hid (show we.ownsRow W0.heap.size 82 2 (.slice oo c oc) (sqL m i j (L.take (k + 1))).length (ccells (sqL m i j (L.take (k + 1)))) by
              rw [hst'.out, if_neg (by simp [hi]), ← hcc'.out]
              exact hO'.out)
            clear su1 su2
            go_wp2_with fail
            go_roundw
            case rel => exact ⟨k + 1, by omega, by go_num, hfin.out, hfw.out⟩
            case measure => simp only [intOf]; omega
        · have hkn : L.take k = L := List.take_of_length_le (by rw [hn'.out]; omega)
          rw [hkn] at hO
          obtain ⟨_, x80, x81, fr0, fr1⟩ := HB.out wd hf
          obtain ⟨c, hcc⟩ : ∃ c, c = (sqL m i j L).length := ⟨_, rfl⟩
          rw [← hcc] at hO
          obtain ⟨oo, oc, rfl⟩ := q_form hO
          have hO' := Lib.hid hO
          have hf' := Lib.hid hf
          have hcc' := Lib.hid hcc
          clear hO hf hkn hcc
          go_wp2_with fail
          (try simp only [Exit.inBlock, Exit.then])
          obtain ⟨w7, hw7⟩ : ∃ V, V = (wd.setCell ⟨h8, 0, none⟩ (.int .i64 (m : Nat))).setCell ⟨h8, 1, none⟩ (.slice oo c oc) := ⟨_, rfl⟩
          have hB9 := hB8'.out.far' hf'.out id
          have hB7 : Bk w7 h8 28 #[.int .i64 (m : Nat), .slice oo c oc] := hw7 ▸ (hB9.set 0 _).set 1 _
          have hf67 : Far (fun q => q = h8) wd w7 := hw7 ▸ ((Far.refl (fun q => q = h8) wd).set ⟨h8, 0, none⟩ _ fun _ => rfl).set ⟨h8, 1, none⟩ _ fun _ => rfl
          have hf7 : Far (fun _ => False) w w7 := (hF0'.out.then hf'.out).trans hf67 fun q hq e => by have := hlo.out; omega
          have c0 : w7.cell? ⟨h8, 0, none⟩ = some (.int .i64 (m : Nat)) := hB7.cell 0
          have c1 : w7.cell? ⟨h8, 1, none⟩ = some (.slice oo c oc) := hB7.cell 1
          have ho7 := row_same hO'.out fun q hq hl => hf67.block q hl fun e => by
            obtain ⟨_, _, cs, hb2⟩ := own_type hO'.out hq
            rw [e] at hb2
            have := bk_type hb2 hB9
            revert this; decide
          have hD : Dm w7 (.agg #[.int .i64 (m : Nat), .slice oo c oc]) m (sqM C m i j) := Dm.own (by omega) (fun r s h => by
            unfold sqM at h
            rw [Bool.and_eq_true, Bool.and_eq_true, decide_eq_true_eq, decide_eq_true_eq] at h
            exact h.1) (hrise'.out m i j) (fun x => hmem'.out m i j hm x) ho7 hcc'.out
          rw [← hw7]
          exact bodyPost_ret (v := .tuple #[.agg #[.int .i64 (m : Nat), .slice oo c oc], .int .i64 0]) (by simp [results, Tryd.f44, go_sem, c0, c1]) rfl ⟨_, rfl, hD, hf7⟩
    · have e : sq4E sc (m : Int) i j = 2 := by unfold sq4E; rw [if_pos hE, Int.toNat_natCast, hst, if_neg hin]
      rw [e, if_neg (by decide), if_neg (by decide)]
      clear e hE hst
      by_cases i0 : i < 0
      · clear hin
        go_enter Tryd.func44, Tryd.ntmps44
        go_upto_region 1 with fail
        rw [← hh4'.out, ← hh8'.out, ← hW0'.out]
        go_wp2_with fail
        refine WR.mono ?_
        rintro e W1 ⟨rfl, hf1⟩
        obtain ⟨⟨y40, y41⟩, y80, y81, yf0, yf1⟩ := HB.out W1 hf1
        have hf1' := Lib.hid hf1
        clear WR hf1 z40 z41
        go_wp2_with fail
        (try simp only [Exit.inBlock, Exit.then])
        obtain ⟨w7, hw7⟩ : ∃ V, V = (W1.setCell ⟨h8, 0, none⟩ (.int .i64 0)).setCell ⟨h8, 1, none⟩ (.slice none 0 0) := ⟨_, rfl⟩
        have hB7 : Bk w7 h8 28 #[.int .i64 0, .slice none 0 0] := hw7 ▸ ((hB8'.out.far' hf1'.out id).set 0 _).set 1 _
        have hf67 : Far (fun q => q = h8) W1 w7 := hw7 ▸ ((Far.refl (fun q => q = h8) W1).set ⟨h8, 0, none⟩ _ fun _ => rfl).set ⟨h8, 1, none⟩ _ fun _ => rfl
        have hf7 : Far (fun _ => False) w w7 := (hF0'.out.then hf1'.out).trans hf67 fun q hq e => by have := hlo.out; omega
        have c0 : w7.cell? ⟨h8, 0, none⟩ = some (.int .i64 0) := hB7.cell 0
        have c1 : w7.cell? ⟨h8, 1, none⟩ = some (.slice none 0 0) := hB7.cell 1
        rw [← hw7]
        exact bodyPost_ret (v := .tuple #[.agg #[.int .i64 0, .slice none 0 0], .int .i64 2]) (by simp [results, Tryd.f44, go_sem, c0, c1]) rfl ⟨_, rfl, Dm.none _, hf7⟩
      · by_cases j0 : j < 0
        · clear hin
          go_enter Tryd.func44, Tryd.ntmps44
          go_upto_region 1 with fail
          rw [← hh4'.out, ← hh8'.out, ← hW0'.out]
          go_wp2_with fail
          refine WR.mono ?_
          rintro e W1 ⟨rfl, hf1⟩
          obtain ⟨⟨y40, y41⟩, y80, y81, yf0, yf1⟩ := HB.out W1 hf1
          have hf1' := Lib.hid hf1
          clear WR hf1 z40 z41
          go_wp2_with fail
          (try simp only [Exit.inBlock, Exit.then])
          obtain ⟨w7, hw7⟩ : ∃ V, V = (W1.setCell ⟨h8, 0, none⟩ (.int .i64 0)).setCell ⟨h8, 1, none⟩ (.slice none 0 0) := ⟨_, rfl⟩
          have hB7 : Bk w7 h8 28 #[.int .i64 0, .slice none 0 0] := hw7 ▸ ((hB8'.out.far' hf1'.out id).set 0 _).set 1 _
          have hf67 : Far (fun q => q = h8) W1 w7 := hw7 ▸ ((Far.refl (fun q => q = h8) W1).set ⟨h8, 0, none⟩ _ fun _ => rfl).set ⟨h8, 1, none⟩ _ fun _ => rfl
          have hf7 : Far (fun _ => False) w w7 := (hF0'.out.then hf1'.out).trans hf67 fun q hq e => by have := hlo.out; omega
          have c0 : w7.cell? ⟨h8, 0, none⟩ = some (.int .i64 0) := hB7.cell 0
          have c1 : w7.cell? ⟨h8, 1, none⟩ = some (.slice none 0 0) := hB7.cell 1
          rw [← hw7]
          exact bodyPost_ret (v := .tuple #[.agg #[.int .i64 0, .slice none 0 0], .int .i64 2]) (by simp [results, Tryd.f44, go_sem, c0, c1]) rfl ⟨_, rfl, Dm.none _, hf7⟩
        · by_cases i1 : (t : Int) ≤ i
          · clear hin
            go_enter Tryd.func44, Tryd.ntmps44
            go_upto_region 1 with fail
            rw [← hh4'.out, ← hh8'.out, ← hW0'.out]
            go_wp2_with fail
            refine WR.mono ?_
            rintro e W1 ⟨rfl, hf1⟩
            obtain ⟨⟨y40, y41⟩, y80, y81, yf0, yf1⟩ := HB.out W1 hf1
            have hf1' := Lib.hid hf1
            clear WR hf1 z40 z41
            go_wp2_with fail
            (try simp only [Exit.inBlock, Exit.then])
            obtain ⟨w7, hw7⟩ : ∃ V, V = (W1.setCell ⟨h8, 0, none⟩ (.int .i64 0)).setCell ⟨h8, 1, none⟩ (.slice none 0 0) := ⟨_, rfl⟩
            have hB7 : Bk w7 h8 28 #[.int .i64 0, .slice none 0 0] := hw7 ▸ ((hB8'.out.far' hf1'.out id).set 0 _).set 1 _
            have hf67 : Far (fun q => q = h8) W1 w7 := hw7 ▸ ((Far.refl (fun q => q = h8) W1).set ⟨h8, 0, none⟩ _ fun _ => rfl).set ⟨h8, 1, none⟩ _ fun _ => rfl
            have hf7 : Far (fun _ => False) w w7 := (hF0'.out.then hf1'.out).trans hf67 fun q hq e => by have := hlo.out; omega
            have c0 : w7.cell? ⟨h8, 0, none⟩ = some (.int .i64 0) := hB7.cell 0
            have c1 : w7.cell? ⟨h8, 1, none⟩ = some (.slice none 0 0) := hB7.cell 1
            rw [← hw7]
            exact bodyPost_ret (v := .tuple #[.agg #[.int .i64 0, .slice none 0 0], .int .i64 2]) (by simp [results, Tryd.f44, go_sem, c0, c1]) rfl ⟨_, rfl, Dm.none _, hf7⟩
          · have j1 : (t : Int) ≤ j := by omega
            clear hin
            go_enter Tryd.func44, Tryd.ntmps44
            go_upto_region 1 with fail
            rw [← hh4'.out, ← hh8'.out, ← hW0'.out]
            go_wp2_with fail
            refine WR.mono ?_
            rintro e W1 ⟨rfl, hf1⟩
            obtain ⟨⟨y40, y41⟩, y80, y81, yf0, yf1⟩ := HB.out W1 hf1
            have hf1' := Lib.hid hf1
            clear WR hf1 z40 z41
            go_wp2_with fail
            (try simp only [Exit.inBlock, Exit.then])
            obtain ⟨w7, hw7⟩ : ∃ V, V = (W1.setCell ⟨h8, 0, none⟩ (.int .i64 0)).setCell ⟨h8, 1, none⟩ (.slice none 0 0) := ⟨_, rfl⟩
            have hB7 : Bk w7 h8 28 #[.int .i64 0, .slice none 0 0] := hw7 ▸ ((hB8'.out.far' hf1'.out id).set 0 _).set 1 _
            have hf67 : Far (fun q => q = h8) W1 w7 := hw7 ▸ ((Far.refl (fun q => q = h8) W1).set ⟨h8, 0, none⟩ _ fun _ => rfl).set ⟨h8, 1, none⟩ _ fun _ => rfl
            have hf7 : Far (fun _ => False) w w7 := (hF0'.out.then hf1'.out).trans hf67 fun q hq e => by have := hlo.out; omega
            have c0 : w7.cell? ⟨h8, 0, none⟩ = some (.int .i64 0) := hB7.cell 0
            have c1 : w7.cell? ⟨h8, 1, none⟩ = some (.slice none 0 0) := hB7.cell 1
            rw [← hw7]
            exact bodyPost_ret (v := .tuple #[.agg #[.int .i64 0, .slice none 0 0], .int .i64 2]) (by simp [results, Tryd.f44, go_sem, c0, c1]) rfl ⟨_, rfl, Dm.none _, hf7⟩
  · have e : sq4E sc q i j = sqE sc q := by unfold sq4E; rw [if_neg hE]
    rw [e, if_neg hE, if_neg hE]
    obtain ⟨E, hEE⟩ : ∃ E, sqE sc q = E := ⟨_, rfl⟩
    rw [hEE] at WR hE ⊢
    have E0 := nat_beq0 hE
    have E1 : ((E : Int) != 0) = true := by simp; omega
    have E2 : ¬ (E : Int) = 0 := by omega
    clear e hE hEE
    go_enter Tryd.func44, Tryd.ntmps44
    go_upto_region 1 with fail
    rw [← hh4'.out, ← hh8'.out, ← hW0'.out]
    go_wp2_with fail
    refine WR.mono ?_
    rintro e W1 ⟨rfl, hf1⟩
    obtain ⟨⟨y40, y41⟩, y80, y81, yf0, yf1⟩ := HB.out W1 hf1
    have hf1' := Lib.hid hf1
    clear WR hf1 z40 z41
    go_wp2_with fail
    (try simp only [Exit.inBlock, Exit.then])
    obtain ⟨w7, hw7⟩ : ∃ V, V = (W1.setCell ⟨h8, 0, none⟩ (.int .i64 0)).setCell ⟨h8, 1, none⟩ (.slice none 0 0) := ⟨_, rfl⟩
    have hB7 : Bk w7 h8 28 #[.int .i64 0, .slice none 0 0] := hw7 ▸ ((hB8'.out.far' hf1'.out id).set 0 _).set 1 _
    have hf67 : Far (fun q => q = h8) W1 w7 := hw7 ▸ ((Far.refl (fun q => q = h8) W1).set ⟨h8, 0, none⟩ _ fun _ => rfl).set ⟨h8, 1, none⟩ _ fun _ => rfl
    have hf7 : Far (fun _ => False) w w7 := (hF0'.out.then hf1'.out).trans hf67 fun q hq e => by have := hlo.out; omega
    have c0 : w7.cell? ⟨h8, 0, none⟩ = some (.int .i64 0) := hB7.cell 0
    have c1 : w7.cell? ⟨h8, 1, none⟩ = some (.slice none 0 0) := hB7.cell 1
    rw [← hw7]
    exact bodyPost_ret (v := .tuple #[.agg #[.int .i64 0, .slice none 0 0], .int .i64 (E : Nat)]) (by simp [results, Tryd.f44, go_sem, c0, c1]) rfl ⟨_, rfl, Dm.none _, hf7⟩
end
end Go.Proofs.YtkobbcmndneajaaDoor
/-! ## QKSides: The document's Sides: the outer matrix, the inner one. -/
namespace Go.Proofs.YtkobbcmndneajaaDoor
open Go.RowKit Go.Shelf
set_option linter.unusedVariables false
set_option linter.unusedSimpArgs false
def outL (q : Nat) (L : List (Nat × Nat)) : List (Nat × Nat) := mkL (fun r s => r / q) (fun r s => s / q) (fun _ _ => true) L
def innL (q : Nat) (L : List (Nat × Nat)) : List (Nat × Nat) := mkL (fun r s => r % q) (fun r s => s % q) (fun _ _ => true) L
theorem outL_len (q : Nat) (L : List (Nat × Nat)) : (outL q L).length = L.length := by simp [outL, mkL]
theorem innL_len (q : Nat) (L : List (Nat × Nat)) : (innL q L).length = L.length := by simp [innL, mkL]
theorem outL_step {q k : Nat} {L : List (Nat × Nat)} {r s : Nat} (h : L[k]? = some (r, s)) : outL q (L.take (k + 1)) = outL q (L.take k) ++ [(r / q, s / q)] := by
  unfold outL
  rw [List.take_add_one, h, Option.toList_some, mkL_app, if_pos rfl]
theorem innL_step {q k : Nat} {L : List (Nat × Nat)} {r s : Nat} (h : L[k]? = some (r, s)) : innL q (L.take (k + 1)) = innL q (L.take k) ++ [(r % q, s % q)] := by
  unfold innL
  rw [List.take_add_one, h, Option.toList_some, mkL_app, if_pos rfl]
theorem outL_mem {q : Nat} {L : List (Nat × Nat)} {x : Nat × Nat} : x ∈ outL q L ↔ ∃ y ∈ L, y.1 / q = x.1 ∧ y.2 / q = x.2 := by
  unfold outL mkL
  simp [Prod.ext_iff]
theorem innL_mem {q : Nat} {L : List (Nat × Nat)} {x : Nat × Nat} : x ∈ innL q L ↔ ∃ y ∈ L, y.1 % q = x.1 ∧ y.2 % q = x.2 := by
  unfold innL mkL
  simp [Prod.ext_iff]
theorem outM_mem {C : Nat → Nat → Bool} {sc q : Nat} (x : Nat × Nat) : x ∈ outL q (cellsL C sc) ↔ outM C sc q x.1 x.2 = true := (addL_zero _ _ _).symm
theorem innM_mem {C : Nat → Nat → Bool} {sc q : Nat} (x : Nat × Nat) : x ∈ innL q (cellsL C sc) ↔ innM C sc q x.1 x.2 = true := (addL_zero _ _ _).symm
theorem outM_within {C : Nat → Nat → Bool} {sc q t : Nat} (hw : ∀ r c, C r c = true → r < sc ∧ c < sc) (hs : sc = t * q) : ∀ r c, outM C sc q r c = true → r < t ∧ c < t := fun r c h => by
  obtain ⟨y, hy, h1, h2⟩ := outL_mem.1 ((outM_mem (r, c)).2 h)
  have h3 := hw _ _ ((mem_cellsL hw).1 hy)
  rw [hs, Nat.mul_comm] at h3
  dsimp only at h1 h2
  exact ⟨h1 ▸ Nat.div_lt_of_lt_mul h3.1, h2 ▸ Nat.div_lt_of_lt_mul h3.2⟩
theorem innM_within {C : Nat → Nat → Bool} {sc q : Nat} (hq : 1 ≤ q) : ∀ r c, innM C sc q r c = true → r < q ∧ c < q := fun r c h => by
  obtain ⟨y, hy, h1, h2⟩ := innL_mem.1 ((innM_mem (r, c)).2 h)
  dsimp only at h1 h2
  exact ⟨h1 ▸ Nat.mod_lt _ hq, h2 ▸ Nat.mod_lt _ hq⟩
section
set_option maxHeartbeats 8000000
set_option maxRecDepth 100000
theorem rSides_any {w : World} {v : Value} {sc : Nat} {C : Nat → Nat → Bool} (hc : Dm w v sc C) (q : Int) : Calls Tryd.prog 45 #[v, .int .i64 q] w fun e w' => ∃ v1 v2, e = .returned (.tuple #[v1, v2, .int .i64 (sqE sc q : Nat)]) ∧ Dm w' v1 (if sqE sc q = 0 then sc / q.toNat else 0) (if sqE sc q = 0 then outM C sc q.toNat else zeroM) ∧ Dm w' v2 (if sqE sc q = 0 then q.toNat else 0) (if sqE sc q = 0 then innM C sc q.toNat else zeroM) ∧ Far (fun _ => False) w w' := by
  have hlen := hc.len
  obtain ⟨ao, cap, rfl, hP, hcap, hsc, hw⟩ := hc
  have hmL : ∀ (k : Nat) (x : Nat × Nat), (cellsL C sc)[k]? = some x → x.1 < sc ∧ x.2 < sc := fun k x h => hw _ _ ((mem_cellsL hw).1 (List.mem_of_getElem? h))
  obtain ⟨n, hn⟩ : ∃ n, (cellsL C sc).length = n := ⟨_, rfl⟩
  rw [hn] at hlen hcap ⊢
  have hmo := fun m : Nat => outM_mem (C := C) (sc := sc) (q := m)
  have hmi := fun m : Nat => innM_mem (C := C) (sc := sc) (q := m)
  obtain ⟨L, hL⟩ : ∃ L, cellsL C sc = L := ⟨_, rfl⟩
  rw [hL] at hP hmL hn hmo hmi
  obtain ⟨h2, hh2⟩ : ∃ h, h = w.heap.size := ⟨_, rfl⟩
  obtain ⟨h4, hh4⟩ : ∃ h, h = h2 + 1 := ⟨_, rfl⟩
  obtain ⟨h5, hh5⟩ : ∃ h, h = h4 + 1 := ⟨_, rfl⟩
  obtain ⟨W0, hW0⟩ : ∃ V, V = ((w.alloc (.cells #[.int .i64 (sc : Nat), .slice ao n cap] 28)).alloc (.cells #[.int .i64 0, .slice none 0 0] 28)).alloc (.cells #[.int .i64 0, .slice none 0 0] 28) := ⟨_, rfl⟩
  have hF0 : Far (fun _ => False) w W0 := hW0 ▸ (((Far.refl _ w).alloc _).alloc _).alloc _
  have hB2 : Bk W0 h2 28 #[.int .i64 (sc : Nat), .slice ao n cap] := hW0 ▸ ((Bk.new hh2).alloc _).alloc _
  have hB4 : Bk W0 h4 28 #[.int .i64 0, .slice none 0 0] := hW0 ▸ (Bk.new (by simp [hh4, hh2])).alloc _
  have hB5 : Bk W0 h5 28 #[.int .i64 0, .slice none 0 0] := hW0 ▸ Bk.new (by simp [hh5, hh4, hh2])
  have HB := Lib.hid (show ∀ V, Far (fun _ => False) W0 V → (V.cell? ⟨h2, 0, none⟩ = some (.int .i64 (sc : Nat)) ∧ V.cell? ⟨h2, 1, none⟩ = some (.slice ao n cap)) ∧ (V.cell? ⟨h4, 0, none⟩ = some (.int .i64 0) ∧ V.cell? ⟨h4, 1, none⟩ = some (.slice none 0 0) ∧ V.frozen? ⟨h4, 0, none⟩ = false ∧ V.frozen? ⟨h4, 1, none⟩ = false) ∧ V.cell? ⟨h5, 0, none⟩ = some (.int .i64 0) ∧ V.cell? ⟨h5, 1, none⟩ = some (.slice none 0 0) ∧ V.frozen? ⟨h5, 0, none⟩ = false ∧ V.frozen? ⟨h5, 1, none⟩ = false from fun V hf => ⟨⟨(hB2.far' hf id).cell 0, (hB2.far' hf id).cell 1⟩, ⟨(hB4.far' hf id).cell 0, (hB4.far' hf id).cell 1, (hB4.far' hf id).free 0, (hB4.far' hf id).free 1⟩, (hB5.far' hf id).cell 0, (hB5.far' hf id).cell 1, (hB5.far' hf id).free 0, (hB5.far' hf id).free 1⟩)
  have HP := Lib.hid (show ∀ V, Far (fun _ => False) W0 V → PL V ao L from fun V hf => hP.move (hF0.then hf))
  obtain ⟨⟨z20, z21⟩, _⟩ := HB.out W0 (Far.refl _ _)
  have WR := rwrong_any W0 sc ao n cap q
  have n42 : h4 ≠ h2 := by omega
  have n52 : h5 ≠ h2 := by omega
  have n45 : h4 ≠ h5 := by omega
  have n54 : h5 ≠ h4 := by omega
  have hlo := Lib.hid (show w.heap.size ≤ h4 ∧ w.heap.size ≤ h5 by omega)
  have hB4' := Lib.hid hB4
  have hB5' := Lib.hid hB5
  have hh2' := Lib.hid hh2
  have hh4' := Lib.hid hh4
  have hh5' := Lib.hid hh5
  have hW0' := Lib.hid hW0
  have hF0' := Lib.hid hF0
  have hmL' := Lib.hid hmL
  have hn' := Lib.hid hn
  have hmo' := Lib.hid hmo
  have hmi' := Lib.hid hmi
  have hw' := Lib.hid hw
  clear hP hw hmL hn hL hmo hmi hh2 hh4 hh5 hW0 hF0 hB2 hB4 hB5
  by_cases hE : sqE sc q = 0
  · obtain ⟨m, t, rfl, hm, hs, hs1, ht1, hst⟩ := sqE_ok hE
    rw [Int.toNat_natCast] at hst
    have hdn := quo_n sc m hm
    rw [hst] at hdn
    obtain ⟨hdv, hdv2⟩ := hdn
    have hms : m ≤ sc := by rw [hs]; exact Nat.le_mul_of_pos_left m ht1
    have hts : t ≤ sc := by rw [hs]; exact Nat.le_mul_of_pos_right t hm
    have hwt := wrap_s (m := t) (by omega)
    have hmn : ¬ m = 0 := by omega
    have hmi0 : ¬ (m : Int) = 0 := by omega
    have m0 := nat_beq0 hmn
    rw [hE] at WR ⊢
    rw [if_pos rfl, if_pos rfl, if_pos rfl, if_pos rfl, Int.toNat_natCast, hst]
    have hs' := Lib.hid hs
    clear hs hs1 hE hst
    go_enter Tryd.func45, Tryd.ntmps45
    go_upto_region 1 with fail
    rw [← hh2'.out, ← hh4'.out, ← hh5'.out, ← hW0'.out]
    go_wp2_with fail
    refine WR.mono ?_
    rintro e W1 ⟨rfl, hf1⟩
    obtain ⟨⟨y20, y21⟩, ⟨y40, y41, yf40, yf41⟩, y50, y51, yf50, yf51⟩ := HB.out W1 hf1
    have hf1' := Lib.hid hf1
    clear WR hf1 z20 z21
    go_wp2_with fail
    clear y20 y21 y40 y41 yf40 yf41 y50 y51 yf50 yf51
    go_loopw [8, 9, 10] (fun ov nv kv wr => ∃ k : Nat, k ≤ n ∧ kv = .int .i64 (k : Nat) ∧ wr.ownsRow W0.heap.size 82 2 ov k (ccells (outL m (L.take k))) ∧ wr.ownsRow W0.heap.size 82 2 nv k (ccells (innL m (L.take k))) ∧ (∀ g, ov.ownBlock = some g → nv.ownBlock ≠ some g) ∧ Far (fun _ => False) W0 wr) (fun _ _ kv _ => n - (intOf kv).toNat)
    case atStart => exact ⟨0, Nat.zero_le _, rfl, World.ownsRow_nil _ _ _ _, World.ownsRow_nil _ _ _ _, (fun g h => by cases h), hf1'.out⟩
    case round =>
      obtain ⟨k, hk, rfl, hO, hN, hdis, hf⟩ := hrel
      obtain ⟨wd, hwd⟩ : ∃ wd, wd = wr := ⟨_, rfl⟩
      rw [← hwd] at hO hN hf ⊢
      clear hwd
      obtain ⟨⟨b20, b21⟩, _⟩ := HB.out wd hf
      by_cases hlt : k < n
      · have hki : (k : Int) < (n : Int) := by omega
        have hkb : (k : Int) + 1 ≤ 9223372036854775807 := by omega
        obtain ⟨⟨r, s⟩, hx⟩ := atS (l := L) (k := k) (by rw [hn'.out]; exact hlt)
        obtain ⟨hr, hs9⟩ := hmL'.out k _ hx
        obtain ⟨ga, oa, rfl, hga, pa0, pa1⟩ := (HP.out wd hf).at hx
        have hst1 := outL_step (q := m) hx
        have hst2 := innL_step (q := m) hx
        obtain ⟨a1, a2⟩ := quo_n r m hm
        obtain ⟨b1, b2⟩ := quo_n s m hm
        obtain ⟨c1, c2⟩ := rem_n r m
        obtain ⟨d1, d2⟩ := rem_n s m
        have hx1 : r / m ≤ 4194304 := Nat.le_trans (Nat.div_le_self _ _) (by omega)
        have hy1 : s / m ≤ 4194304 := Nat.le_trans (Nat.div_le_self _ _) (by omega)
        have hu1 : r % m ≤ 4194304 := Nat.le_trans (Nat.mod_le _ _) (by omega)
        have hv1 : s % m ≤ 4194304 := Nat.le_trans (Nat.mod_le _ _) (by omega)
        obtain ⟨x, hxx⟩ : ∃ x, r / m = x := ⟨_, rfl⟩
        obtain ⟨y, hyy⟩ : ∃ y, s / m = y := ⟨_, rfl⟩
        obtain ⟨u, huu⟩ : ∃ u, r % m = u := ⟨_, rfl⟩
        obtain ⟨v, hvv⟩ : ∃ v, s % m = v := ⟨_, rfl⟩
        rw [hxx, hyy] at hst1
        rw [huu, hvv] at hst2
        rw [hxx] at a1 a2 hx1
        rw [hyy] at b1 b2 hy1
        rw [huu] at c1 c2 hu1
        rw [hvv] at d1 d2 hv1
        clear hxx hyy huu hvv
        have wx := wrap_s hx1
        have wy := wrap_s hy1
        have wu := wrap_s hu1
        have wv := wrap_s hv1
        obtain ⟨bx, hhx⟩ : ∃ h, h = wd.heap.size := ⟨_, rfl⟩
        obtain ⟨we, hwe⟩ : ∃ V, V = wd.alloc (.cells #[.int .i64 (r : Nat), .int .i64 (s : Nat)] 82) := ⟨_, rfl⟩
        have hBx : Bk we bx 82 #[.int .i64 (r : Nat), .int .i64 (s : Nat)] := hwe ▸ Bk.new hhx
        have hfe : Far (fun _ => False) wd we := hwe ▸ (Far.refl _ wd).alloc _
        have x0 : we.cell? ⟨bx, 0, none⟩ = some (.int .i64 (r : Nat)) := hBx.cell 0
        have x1 : we.cell? ⟨bx, 1, none⟩ = some (.int .i64 (s : Nat)) := hBx.cell 1
        obtain ⟨oo, oc, rfl⟩ := q_form hO
        obtain ⟨po, pc, rfl⟩ := q_form hN
        have hOx : (Value.slice oo k oc).ownBlock ≠ some bx := fun e => by
          obtain ⟨_, h1, _⟩ := own_type hO e
          omega
        have hNx : (Value.slice po k pc).ownBlock ≠ some bx := fun e => by
          obtain ⟨_, h1, _⟩ := own_type hN e
          omega
        have hOe := Lib.hid (row_same hO fun q _ hl => hfe.block q hl id)
        have hNe := Lib.hid (row_same hN fun q _ hl => hfe.block q hl id)
        have hfw := Lib.hid (hf.then hfe)
        have hdis' := Lib.hid hdis
        have hst1' := Lib.hid hst1
        have hst2' := Lib.hid hst2
        have hBx' := Lib.hid hBx
        have hOx' := Lib.hid hOx
        have hNx' := Lib.hid hNx
        have hhx' := Lib.hid hhx
        have hwe' := Lib.hid hwe
        clear hx hst1 hst2 hO hN hf hdis hhx hwe hBx hfe hOx hNx
        obtain ⟨ci, hci, hz0, hz1, hz2⟩ := info_parts cellInfo
        have C1 := Lib.hid (World.ownsRow.alloc (show World.ownsRow we.drew _ _ _ _ _ _ from hOe.out) (.cells #[.int .i64 (x : Nat), .int .i64 (y : Nat)] 82))
        have C7 := Lib.hid (World.news_of_block (w := we.drew.alloc (.cells #[.int .i64 (x : Nat), .int .i64 (y : Nat)] 82)) (cs := #[.int .i64 (x : Nat), .int .i64 (y : Nat)]) (t := 82) (fr := (0, 0)) (heap_alloc_new we.drew _))
        have C3 := Lib.hid (show ∀ u9 ∈ [(.int .i64 (x : Nat) : Value), .int .i64 (y : Nat)], u9.oneCell' = true by simp [Value.oneCell'])
        have C4 : k + 1 ≤ maxLen := by unfold maxLen; omega
        have C5 : (k + 1) * 16 ≤ 140737488355328 := by omega
        have HS9 := Lib.hid (show ∀ V, Far (fun q => (Value.slice oo k oc).ownBlock = some q) we V → V.cell? ⟨bx, 0, none⟩ = some (.int .i64 (r : Nat)) ∧ V.cell? ⟨bx, 1, none⟩ = some (.int .i64 (s : Nat)) from fun V hV => ⟨(hBx'.out.far' hV hOx'.out).cell 0, (hBx'.out.far' hV hOx'.out).cell 1⟩)
        have hfe1 := Lib.hid (Far.refl (fun q => (Value.slice oo k oc).ownBlock = some q) we).drew
        have hfe2 := Lib.hid (hfe1.out.alloc (.cells #[.int .i64 (x : Nat), .int .i64 (y : Nat)] 82))
        have C6 : W0.heap.size ≤ (we.drew.alloc (.cells #[.int .i64 (x : Nat), .int .i64 (y : Nat)] 82)).heap.size := Nat.le_trans hfw.out.size hfe2.out.size
        go_upto_region 9 with fail
        rw [← hhx'.out, ← hwe'.out]
        clear b20 b21 pa0 pa1
        go_region_held3 (fun V => V.cell? ⟨bx, 0, none⟩ = some (.int .i64 (r : Nat)) ∧ V.cell? ⟨bx, 1, none⟩ = some (.int .i64 (s : Nat))) (first | exact HS9.out _ hfe1.out | exact HS9.out _ hfe2.out | exact HS9.out _ hF6.out)
          ((refine step_append_lies _ rfl (.tmp 32) (.tmp 42) 26 rfl W0.heap.size 82 ci _ 2 16 Tryd.underlying26 hci hz0 hz1 hz2 rfl (by decide) (.slice oo k oc) k _ rfl C1.out ⟨we.heap.size, 0, none⟩ 1 1 [.int .i64 (x : Nat), .int .i64 (y : Nat)] rfl rfl C7.out C3.out (by decide) C4 C5 C6 _ rfl ?_; intro g5 c5 w6 ho6 hg6 hw6 hl6; have hF6 := Lib.hid (hfe2.out.trans (grown_F hg6) fun q hq e => e); have ho6' := Lib.hid ho6; have hw6' := Lib.hid hw6; have hl6' := Lib.hid hl6; clear ho6 hg6 hw6 hl6))
        obtain ⟨x06, x16⟩ := HS9.out w6 hF6.out
        have hB6 := Lib.hid (hBx'.out.far' hF6.out hOx'.out)
        have hN6 := Lib.hid (row_same hNe.out fun q hq hl => hF6.out.block q hl fun e => hdis'.out q e hq)
        have hdis6 := Lib.hid (show (Value.slice po k pc).ownBlock ≠ some g5 from fun e => by
          rcases hw6'.out with h | h
          · exact hdis'.out g5 h e
          · obtain ⟨_, h1, _⟩ := own_type hNe.out e
            have h2 : we.heap.size ≤ g5 := by rw [h]; exact hfe2.out.size
            omega)
        have hf6 := Lib.hid (hfw.out.trans hF6.out fun q hq e => by have := (own_type hOe.out e).1; omega)
        have D1 := Lib.hid (World.ownsRow.alloc (show World.ownsRow w6.drew _ _ _ _ _ _ from hN6.out) (.cells #[.int .i64 (u : Nat), .int .i64 (v : Nat)] 82))
        have D7 := Lib.hid (World.news_of_block (w := w6.drew.alloc (.cells #[.int .i64 (u : Nat), .int .i64 (v : Nat)] 82)) (cs := #[.int .i64 (u : Nat), .int .i64 (v : Nat)]) (t := 82) (fr := (0, 0)) (heap_alloc_new w6.drew _))
        have D3 := Lib.hid (show ∀ u9 ∈ [(.int .i64 (u : Nat) : Value), .int .i64 (v : Nat)], u9.oneCell' = true by simp [Value.oneCell'])
        have HS10 := Lib.hid (show ∀ V, Far (fun q => (Value.slice po k pc).ownBlock = some q) w6 V → V.cell? ⟨bx, 0, none⟩ = some (.int .i64 (r : Nat)) ∧ V.cell? ⟨bx, 1, none⟩ = some (.int .i64 (s : Nat)) from fun V hV => ⟨(hB6.out.far' hV hNx'.out).cell 0, (hB6.out.far' hV hNx'.out).cell 1⟩)
        have hfg1 := Lib.hid (Far.refl (fun q => (Value.slice po k pc).ownBlock = some q) w6).drew
        have hfg2 := Lib.hid (hfg1.out.alloc (.cells #[.int .i64 (u : Nat), .int .i64 (v : Nat)] 82))
        have D6 : W0.heap.size ≤ (w6.drew.alloc (.cells #[.int .i64 (u : Nat), .int .i64 (v : Nat)] 82)).heap.size := Nat.le_trans hf6.out.size hfg2.out.size
        clear C1 C7 C3 C6 x0 x1
        go_upto_region 10 with fail
        go_region_held3 (fun V => V.cell? ⟨bx, 0, none⟩ = some (.int .i64 (r : Nat)) ∧ V.cell? ⟨bx, 1, none⟩ = some (.int .i64 (s : Nat))) (first | exact HS10.out _ hfg1.out | exact HS10.out _ hfg2.out | exact HS10.out _ hF7.out)
          ((refine step_append_lies _ rfl (.tmp 44) (.tmp 54) 26 rfl W0.heap.size 82 ci _ 2 16 Tryd.underlying26 hci hz0 hz1 hz2 rfl (by decide) (.slice po k pc) k _ rfl D1.out ⟨w6.heap.size, 0, none⟩ 1 1 [.int .i64 (u : Nat), .int .i64 (v : Nat)] rfl rfl D7.out D3.out (by decide) C4 C5 D6 _ rfl ?_; intro g7 c7 w7 ho7 hg7 hw7 hl7; have hF7 := Lib.hid (hfg2.out.trans (grown_F hg7) fun q hq e => e); have ho7' := Lib.hid ho7; have hw7' := Lib.hid hw7; clear ho7 hg7 hw7 hl7))
        have ho67 := Lib.hid (row_same ho6'.out fun q hq hl => hF7.out.block q hl fun e => by
          have h1 : g5 = q := Option.some.inj hq
          exact hdis6.out (h1 ▸ e))
        have hf7 := Lib.hid (hf6.out.trans hF7.out fun q hq e => by have := (own_type hN6.out e).1; omega)
        have hd7 := Lib.hid (show ∀ g, (Value.slice (some ⟨g5, 0, none⟩) (k + 1) c5).ownBlock = some g → (Value.slice (some ⟨g7, 0, none⟩) (k + 1) c7).ownBlock ≠ some g from fun g h1 h2 => by
          have e1 : g5 = g := Option.some.inj h1
          have e2 : g7 = g := Option.some.inj h2
          rcases hw7'.out with h | h
          · exact hdis6.out (by rw [h, e1, e2])
          · have h3 := hl6'.out
            have h4 : w6.heap.size ≤ g7 := by rw [h]; exact hfg2.out.size
            omega)
        go_wp2_with fail
        go_roundw
        case rel => exact ⟨k + 1, by omega, by go_num, by rw [hst1'.out, ccells_app]; exact ho67.out, by rw [hst2'.out, ccells_app]; exact ho7'.out, hd7.out, hf7.out⟩
        case measure => simp only [intOf]; omega
      · have e : k = n := by omega
        subst e
        have hkn : L.take k = L := List.take_of_length_le (by rw [hn'.out]; exact Nat.le_refl _)
        rw [hkn] at hO hN
        obtain ⟨oo, oc, rfl⟩ := q_form hO
        obtain ⟨po, pc, rfl⟩ := q_form hN
        have hoc := own_cap hO
        have hpc := own_cap hN
        have hwo := outM_within hw'.out hs'.out
        have hwi := innM_within (C := C) (sc := sc) hm
        have SO := Lib.hid (fun (V : World) (hV : Far (fun _ => False) wd V) => sorted_any _ (outL m L) (Nat.le_refl _) k oo oc V (by rw [outL_len, hn'.out]) hoc (by omega) (fun x hx => by
          have := hwo _ _ ((hmo'.out m x).1 hx)
          omega) (PL.own (row_same hO fun q _ hl => hV.block q hl id) (by rw [outL_len, hn'.out])))
        have SN := Lib.hid (fun (V : World) (hV : Far (fun _ => False) wd V) => sorted_any _ (innL m L) (Nat.le_refl _) k po pc V (by rw [innL_len, hn'.out]) hpc (by omega) (fun x hx => by
          have := hwi _ _ ((hmi'.out m x).1 hx)
          omega) (PL.own (row_same hN fun q _ hl => hV.block q hl id) (by rw [innL_len, hn'.out])))
        have hfd := Lib.hid (Far.refl (fun _ => False) wd).drew
        have hf' := Lib.hid hf
        have hwo' := Lib.hid hwo
        have hwi' := Lib.hid hwi
        clear hO hN hf hkn hdis hoc hpc hwo hwi
        go_upto_region 11 with fail
        clear b20 b21
        go_region_held3 (fun V => V.cell? ⟨h2, 0, none⟩ = some (.int .i64 (sc : Nat))) (first | exact (HB.out _ (hf'.out.then hf9.out)).1.1 | exact (HB.out _ (hf'.out.then hf8.out)).1.1 | exact (HB.out _ (hf'.out.then hfd.out)).1.1 | go_keep)
          (first
            | (go_at_call 52; (with_reducible refine (SN.out _ hf8o.out).mono ?_); rintro e w9 ⟨vn, rfl, ln, hown, hr, hm9, hlen9, hfx⟩; obtain ⟨apn, pcn, rfl⟩ := q_form hown; have hf9 := Lib.hid (hf8o.out.then hfx); have hO9 := Lib.hid (row_same hOo.out fun q _ hl => hfx.block q hl id); have hN9 := Lib.hid hown; have hrN := Lib.hid hr; have hmN := Lib.hid hm9; obtain ⟨nn, hnn⟩ : ∃ n, n = ln.length := ⟨_, rfl⟩; rw [← hnn] at hN9 ⊢; have hnn' := Lib.hid hnn; obtain ⟨⟨c20, _⟩, ⟨d40, d41, f40, f41⟩, d50, d51, f50, f51⟩ := HB.out w9 (hf'.out.then hf9.out); clear hown hr hm9 hlen9 hfx hnn)
            | (go_at_call 52; (with_reducible refine (SO.out _ hf8n.out).mono ?_); rintro e w9 ⟨vo, rfl, lo, hown, hr, hm9, hlen9, hfx⟩; obtain ⟨aon, ocn, rfl⟩ := q_form hown; have hf9 := Lib.hid (hf8n.out.then hfx); have hN9 := Lib.hid (row_same hNn.out fun q _ hl => hfx.block q hl id); have hO9 := Lib.hid hown; have hrO := Lib.hid hr; have hmO := Lib.hid hm9; obtain ⟨no, hno⟩ : ∃ n, n = lo.length := ⟨_, rfl⟩; rw [← hno] at hO9 ⊢; have hno' := Lib.hid hno; obtain ⟨⟨c20, _⟩, ⟨d40, d41, f40, f41⟩, d50, d51, f50, f51⟩ := HB.out w9 (hf'.out.then hf9.out); clear hown hr hm9 hlen9 hfx hno)
            | (go_at_call 52; (with_reducible refine (SO.out _ hfd.out).mono ?_); rintro e w8 ⟨vo, rfl, lo, hown, hr, hm9, hlen9, hfx⟩; obtain ⟨aon, ocn, rfl⟩ := q_form hown; have hf8o := Lib.hid (hfd.out.then hfx); have hf8 := Lib.hid hf8o.out; have hrO := Lib.hid hr; have hmO := Lib.hid hm9; obtain ⟨no, hno⟩ : ∃ n, n = lo.length := ⟨_, rfl⟩; rw [← hno] at hown ⊢; have hOo := Lib.hid hown; have hno' := Lib.hid hno; clear hown hr hm9 hlen9 hfx hno)
            | (go_at_call 52; (with_reducible refine (SN.out _ hfd.out).mono ?_); rintro e w8 ⟨vn, rfl, ln, hown, hr, hm9, hlen9, hfx⟩; obtain ⟨apn, pcn, rfl⟩ := q_form hown; have hf8n := Lib.hid (hfd.out.then hfx); have hf8 := Lib.hid hf8n.out; have hrN := Lib.hid hr; have hmN := Lib.hid hm9; obtain ⟨nn, hnn⟩ : ∃ n, n = ln.length := ⟨_, rfl⟩; rw [← hnn] at hown ⊢; have hNn := Lib.hid hown; have hnn' := Lib.hid hnn; clear hown hr hm9 hlen9 hfx hnn))
        all_goals
          go_wp2_with fail
          (try simp only [Exit.inBlock, Exit.then])
          obtain ⟨w7, hw7⟩ : ∃ V, V = (((w9.setCell ⟨h4, 0, none⟩ (.int .i64 (t : Nat))).setCell ⟨h4, 1, none⟩ (.slice aon no ocn)).setCell ⟨h5, 0, none⟩ (.int .i64 (m : Nat))).setCell ⟨h5, 1, none⟩ (.slice apn nn pcn) := ⟨_, rfl⟩
          have hB94 := hB4'.out.far' (hf'.out.then hf9.out) id
          have hB95 := hB5'.out.far' (hf'.out.then hf9.out) id
          have hB74 : Bk w7 h4 28 #[.int .i64 (t : Nat), .slice aon no ocn] := hw7 ▸ ((((hB94.set 0 _).set 1 _).far (p := ⟨h5, 0, none⟩) n45 _).far (p := ⟨h5, 1, none⟩) n45 _)
          have hB75 : Bk w7 h5 28 #[.int .i64 (m : Nat), .slice apn nn pcn] := hw7 ▸ ((((hB95.far (p := ⟨h4, 0, none⟩) n54 _).far (p := ⟨h4, 1, none⟩) n54 _).set 0 _).set 1 _)
          have hf67 : Far (fun q => q = h4 ∨ q = h5) w9 w7 := hw7 ▸ ((((Far.refl (fun q => q = h4 ∨ q = h5) w9).set ⟨h4, 0, none⟩ _ fun _ => .inl rfl).set ⟨h4, 1, none⟩ _ fun _ => .inl rfl).set ⟨h5, 0, none⟩ _ fun _ => .inr rfl).set ⟨h5, 1, none⟩ _ fun _ => .inr rfl
          have hf7 : Far (fun _ => False) w w7 := (hF0'.out.then (hf'.out.then hf9.out)).trans hf67 fun q hq e => by have := hlo.out; omega
          have c0 : w7.cell? ⟨h4, 0, none⟩ = some (.int .i64 (t : Nat)) := hB74.cell 0
          have c1 : w7.cell? ⟨h4, 1, none⟩ = some (.slice aon no ocn) := hB74.cell 1
          have c2 : w7.cell? ⟨h5, 0, none⟩ = some (.int .i64 (m : Nat)) := hB75.cell 0
          have c3 : w7.cell? ⟨h5, 1, none⟩ = some (.slice apn nn pcn) := hB75.cell 1
          have ho7 := row_same hO9.out fun q hq hl => hf67.block q hl fun e => by
            obtain ⟨_, _, cs, hb2⟩ := own_type hO9.out hq
            rcases e with e | e
            · rw [e] at hb2; have := bk_type hb2 hB94; revert this; decide
            · rw [e] at hb2; have := bk_type hb2 hB95; revert this; decide
          have hn7 := row_same hN9.out fun q hq hl => hf67.block q hl fun e => by
            obtain ⟨_, _, cs, hb2⟩ := own_type hN9.out hq
            rcases e with e | e
            · rw [e] at hb2; have := bk_type hb2 hB94; revert this; decide
            · rw [e] at hb2; have := bk_type hb2 hB95; revert this; decide
          have hD1 : Dm w7 (.agg #[.int .i64 (t : Nat), .slice aon no ocn]) t (outM C sc m) := Dm.own (by omega) hwo'.out hrO.out (fun x => (hmO.out x).trans (hmo'.out m x)) ho7 hno'.out
          have hD2 : Dm w7 (.agg #[.int .i64 (m : Nat), .slice apn nn pcn]) m (innM C sc m) := Dm.own (by omega) hwi'.out hrN.out (fun x => (hmN.out x).trans (hmi'.out m x)) hn7 hnn'.out
          rw [← hw7]
          exact bodyPost_ret (v := .tuple #[.agg #[.int .i64 (t : Nat), .slice aon no ocn], .agg #[.int .i64 (m : Nat), .slice apn nn pcn], .int .i64 0]) (by simp [results, Tryd.f45, go_sem, c0, c1, c2, c3]) rfl ⟨_, _, rfl, hD1, hD2, hf7⟩
  · rw [if_neg hE, if_neg hE, if_neg hE, if_neg hE]
    obtain ⟨E, hEE⟩ : ∃ E, sqE sc q = E := ⟨_, rfl⟩
    rw [hEE] at WR hE ⊢
    have E0 := nat_beq0 hE
    have E1 : ((E : Int) != 0) = true := by simp; omega
    have E2 : ¬ (E : Int) = 0 := by omega
    clear hE hEE
    go_enter Tryd.func45, Tryd.ntmps45
    go_upto_region 1 with fail
    rw [← hh2'.out, ← hh4'.out, ← hh5'.out, ← hW0'.out]
    go_wp2_with fail
    refine WR.mono ?_
    rintro e W1 ⟨rfl, hf1⟩
    obtain ⟨⟨y20, y21⟩, ⟨y40, y41, yf40, yf41⟩, y50, y51, yf50, yf51⟩ := HB.out W1 hf1
    have hf1' := Lib.hid hf1
    clear WR hf1 z20 z21
    go_wp2_with fail
    (try simp only [Exit.inBlock, Exit.then])
    obtain ⟨w7, hw7⟩ : ∃ V, V = (((W1.setCell ⟨h4, 0, none⟩ (.int .i64 0)).setCell ⟨h4, 1, none⟩ (.slice none 0 0)).setCell ⟨h5, 0, none⟩ (.int .i64 0)).setCell ⟨h5, 1, none⟩ (.slice none 0 0) := ⟨_, rfl⟩
    have hB94 := hB4'.out.far' hf1'.out id
    have hB95 := hB5'.out.far' hf1'.out id
    have hB74 : Bk w7 h4 28 #[.int .i64 0, .slice none 0 0] := hw7 ▸ ((((hB94.set 0 _).set 1 _).far (p := ⟨h5, 0, none⟩) n45 _).far (p := ⟨h5, 1, none⟩) n45 _)
    have hB75 : Bk w7 h5 28 #[.int .i64 0, .slice none 0 0] := hw7 ▸ ((((hB95.far (p := ⟨h4, 0, none⟩) n54 _).far (p := ⟨h4, 1, none⟩) n54 _).set 0 _).set 1 _)
    have hf67 : Far (fun q => q = h4 ∨ q = h5) W1 w7 := hw7 ▸ ((((Far.refl (fun q => q = h4 ∨ q = h5) W1).set ⟨h4, 0, none⟩ _ fun _ => .inl rfl).set ⟨h4, 1, none⟩ _ fun _ => .inl rfl).set ⟨h5, 0, none⟩ _ fun _ => .inr rfl).set ⟨h5, 1, none⟩ _ fun _ => .inr rfl
    have hf7 : Far (fun _ => False) w w7 := (hF0'.out.then hf1'.out).trans hf67 fun q hq e => by have := hlo.out; omega
    have c0 : w7.cell? ⟨h4, 0, none⟩ = some (.int .i64 0) := hB74.cell 0
    have c1 : w7.cell? ⟨h4, 1, none⟩ = some (.slice none 0 0) := hB74.cell 1
    have c2 : w7.cell? ⟨h5, 0, none⟩ = some (.int .i64 0) := hB75.cell 0
    have c3 : w7.cell? ⟨h5, 1, none⟩ = some (.slice none 0 0) := hB75.cell 1
    rw [← hw7]
    exact bodyPost_ret (v := .tuple #[.agg #[.int .i64 0, .slice none 0 0], .agg #[.int .i64 0, .slice none 0 0], .int .i64 (E : Nat)]) (by simp [results, Tryd.f45, go_sem, c0, c1, c2, c3]) rfl ⟨_, _, rfl, Dm.none _, Dm.none _, hf7⟩
end
end Go.Proofs.YtkobbcmndneajaaDoor
