/-
  kron.Square.
-/
import Derived.Test.YthgjnnghokmjdaaDoorQKProd
import Derived.Deep.RegionHeld3
namespace Go.Proofs.YthgjnnghokmjdaaDoor
open Go.RowKit Go.Shelf
set_option linter.unusedVariables false
set_option linter.unusedSimpArgs false
theorem beq_nat (a b : Nat) : ((a : Int) == (b : Int)) = decide (a = b) := by
  rw [Bool.eq_iff_iff]; simp; omega
section
set_option maxHeartbeats 1000000
set_option maxRecDepth 100000
theorem sq1_03 (V : World) (h5 h6 h7 : Nat) (B5 : Bk V h5 3 #[.int .i64 3]) (B6 : Bk V h6 3 #[.int .i64 0]) (B7 : Bk V h7 3 #[.int .i64 1]) :
    Calls Tryd.prog 117 #[.int .i64 0, .int .i64 3, .pointer (some ⟨h5, 0, none⟩), .pointer (some ⟨h6, 0, none⟩), .pointer (some ⟨h7, 0, none⟩)] V fun e w' => e = .returned (.tuple #[.agg #[.int .i64 0, .int .i64 0], .bool true]) ∧ Far (fun _ => False) V w' := by
  obtain ⟨h0, hh0⟩ : ∃ h, h = V.heap.size := ⟨_, rfl⟩
  obtain ⟨V1, hV1⟩ : ∃ X, X = V.alloc (.cells #[.int .i64 0, .int .i64 0] 96) := ⟨_, rfl⟩
  have hf1 : Far (fun _ => False) V V1 := hV1 ▸ (Far.refl _ V).alloc _
  have hB0 : Bk V1 h0 96 #[.int .i64 0, .int .i64 0] := hV1 ▸ Bk.new hh0
  have c5 : V1.cell? ⟨h5, 0, none⟩ = some (.int .i64 3) := (B5.far' hf1 id).cell 0
  have c6 : V1.cell? ⟨h6, 0, none⟩ = some (.int .i64 0) := (B6.far' hf1 id).cell 0
  have c7 : V1.cell? ⟨h7, 0, none⟩ = some (.int .i64 1) := (B7.far' hf1 id).cell 0
  have d0 : V1.cell? ⟨h0, 0, none⟩ = some (.int .i64 0) := hB0.cell 0
  have d1 : V1.cell? ⟨h0, 1, none⟩ = some (.int .i64 0) := hB0.cell 1
  have f0 := hB0.free 0
  have f1 := hB0.free 1
  have n50 : h5 ≠ h0 := Nat.ne_of_lt (by rw [hh0]; exact B5.lt)
  have n60 : h6 ≠ h0 := Nat.ne_of_lt (by rw [hh0]; exact B6.lt)
  have n70 : h7 ≠ h0 := Nat.ne_of_lt (by rw [hh0]; exact B7.lt)
  have n05 : h0 ≠ h5 := fun e => n50 e.symm
  have n06 : h0 ≠ h6 := fun e => n60 e.symm
  have n07 : h0 ≠ h7 := fun e => n70 e.symm
  have u0 : IntKind.i64.wrap 0 = 0 := by decide
  have u1 : IntKind.i64.wrap 1 = 1 := by decide
  have u2 : IntKind.i64.wrap 2 = 2 := by decide
  have hf1' := Lib.hid hf1
  have hB0' := Lib.hid hB0
  have hh0' := Lib.hid hh0
  have hV1' := Lib.hid hV1
  clear hf1 hB0 hh0 hV1 B5 B6 B7
  go_enter Tryd.func117, Tryd.ntmps117
  go_upto_region 1 with fail
  rw [← hV1'.out, ← hh0'.out]
  go_region_held3 (fun w' => w'.cell? ⟨h5, 0, none⟩ = some (.int .i64 3) ∧ w'.cell? ⟨h6, 0, none⟩ = some (.int .i64 0) ∧ w'.cell? ⟨h7, 0, none⟩ = some (.int .i64 1)) (go_keep) (first | fail)
  all_goals
    go_wp2_with fail
    (try simp only [Exit.inBlock, Exit.then])
    obtain ⟨w7, hw7⟩ : ∃ X, X = ((V1.setCell ⟨h0, 0, none⟩ (.int .i64 0)).setCell ⟨h0, 1, none⟩ (.int .i64 0)).drew := ⟨_, rfl⟩
    have hB7 : Bk w7 h0 96 #[.int .i64 0, .int .i64 0] := hw7 ▸ ((hB0'.out.set 0 _).set 1 _ : Bk ((V1.setCell ⟨h0, 0, none⟩ (.int .i64 0)).setCell ⟨h0, 1, none⟩ (.int .i64 0)) h0 _ _)
    have hf7 : Far (fun _ => False) V w7 := hw7 ▸ (((hf1'.out.set ⟨h0, 0, none⟩ _ (fun h => by rw [hh0'.out] at h; exact absurd h (Nat.lt_irrefl _))).set ⟨h0, 1, none⟩ _ (fun h => by rw [hh0'.out] at h; exact absurd h (Nat.lt_irrefl _)))).drew
    have e0 : w7.cell? ⟨h0, 0, none⟩ = some (.int .i64 0) := hB7.cell 0
    have e1 : w7.cell? ⟨h0, 1, none⟩ = some (.int .i64 0) := hB7.cell 1
    rw [← hw7]
    exact bodyPost_ret (v := .tuple #[.agg #[.int .i64 0, .int .i64 0], .bool true]) (by simp [results, Tryd.f117, go_sem, e0, e1, u0, u1, u2]) rfl ⟨rfl, hf7⟩
theorem sq1_24 (V : World) (h5 h6 h7 : Nat) (B5 : Bk V h5 3 #[.int .i64 3]) (B6 : Bk V h6 3 #[.int .i64 0]) (B7 : Bk V h7 3 #[.int .i64 1]) :
    Calls Tryd.prog 117 #[.int .i64 2, .int .i64 4, .pointer (some ⟨h5, 0, none⟩), .pointer (some ⟨h6, 0, none⟩), .pointer (some ⟨h7, 0, none⟩)] V fun e w' => e = .returned (.tuple #[.agg #[.int .i64 2, .int .i64 1], .bool true]) ∧ Far (fun _ => False) V w' := by
  obtain ⟨h0, hh0⟩ : ∃ h, h = V.heap.size := ⟨_, rfl⟩
  obtain ⟨V1, hV1⟩ : ∃ X, X = V.alloc (.cells #[.int .i64 0, .int .i64 0] 96) := ⟨_, rfl⟩
  have hf1 : Far (fun _ => False) V V1 := hV1 ▸ (Far.refl _ V).alloc _
  have hB0 : Bk V1 h0 96 #[.int .i64 0, .int .i64 0] := hV1 ▸ Bk.new hh0
  have c5 : V1.cell? ⟨h5, 0, none⟩ = some (.int .i64 3) := (B5.far' hf1 id).cell 0
  have c6 : V1.cell? ⟨h6, 0, none⟩ = some (.int .i64 0) := (B6.far' hf1 id).cell 0
  have c7 : V1.cell? ⟨h7, 0, none⟩ = some (.int .i64 1) := (B7.far' hf1 id).cell 0
  have d0 : V1.cell? ⟨h0, 0, none⟩ = some (.int .i64 0) := hB0.cell 0
  have d1 : V1.cell? ⟨h0, 1, none⟩ = some (.int .i64 0) := hB0.cell 1
  have f0 := hB0.free 0
  have f1 := hB0.free 1
  have n50 : h5 ≠ h0 := Nat.ne_of_lt (by rw [hh0]; exact B5.lt)
  have n60 : h6 ≠ h0 := Nat.ne_of_lt (by rw [hh0]; exact B6.lt)
  have n70 : h7 ≠ h0 := Nat.ne_of_lt (by rw [hh0]; exact B7.lt)
  have n05 : h0 ≠ h5 := fun e => n50 e.symm
  have n06 : h0 ≠ h6 := fun e => n60 e.symm
  have n07 : h0 ≠ h7 := fun e => n70 e.symm
  have u0 : IntKind.i64.wrap 0 = 0 := by decide
  have u1 : IntKind.i64.wrap 1 = 1 := by decide
  have u2 : IntKind.i64.wrap 2 = 2 := by decide
  have hf1' := Lib.hid hf1
  have hB0' := Lib.hid hB0
  have hh0' := Lib.hid hh0
  have hV1' := Lib.hid hV1
  clear hf1 hB0 hh0 hV1 B5 B6 B7
  go_enter Tryd.func117, Tryd.ntmps117
  go_upto_region 1 with fail
  rw [← hV1'.out, ← hh0'.out]
  go_region_held3 (fun w' => w'.cell? ⟨h5, 0, none⟩ = some (.int .i64 3) ∧ w'.cell? ⟨h6, 0, none⟩ = some (.int .i64 0) ∧ w'.cell? ⟨h7, 0, none⟩ = some (.int .i64 1)) (go_keep) (first | fail)
  all_goals
    go_wp2_with fail
    (try simp only [Exit.inBlock, Exit.then])
    obtain ⟨w7, hw7⟩ : ∃ X, X = ((V1.setCell ⟨h0, 0, none⟩ (.int .i64 2)).setCell ⟨h0, 1, none⟩ (.int .i64 1)).drew := ⟨_, rfl⟩
    have hB7 : Bk w7 h0 96 #[.int .i64 2, .int .i64 1] := hw7 ▸ ((hB0'.out.set 0 _).set 1 _ : Bk ((V1.setCell ⟨h0, 0, none⟩ (.int .i64 2)).setCell ⟨h0, 1, none⟩ (.int .i64 1)) h0 _ _)
    have hf7 : Far (fun _ => False) V w7 := hw7 ▸ (((hf1'.out.set ⟨h0, 0, none⟩ _ (fun h => by rw [hh0'.out] at h; exact absurd h (Nat.lt_irrefl _))).set ⟨h0, 1, none⟩ _ (fun h => by rw [hh0'.out] at h; exact absurd h (Nat.lt_irrefl _)))).drew
    have e0 : w7.cell? ⟨h0, 0, none⟩ = some (.int .i64 2) := hB7.cell 0
    have e1 : w7.cell? ⟨h0, 1, none⟩ = some (.int .i64 1) := hB7.cell 1
    rw [← hw7]
    exact bodyPost_ret (v := .tuple #[.agg #[.int .i64 2, .int .i64 1], .bool true]) (by simp [results, Tryd.f117, go_sem, e0, e1, u0, u1, u2]) rfl ⟨rfl, hf7⟩
/-- One square. -/
def sqM (C : Nat → Nat → Bool) (q i j : Nat) : Nat → Nat → Bool := fun r s => decide (r < q) && decide (s < q) && C (i * q + r) (j * q + s)
variable {w : World} {Bc sc : Nat} {Fc : Nat → Prop} {C : Nat → Nat → Bool}
theorem sq_cells {q i j t : Nat} (hq : 1 ≤ q) (hC : ∀ r c, C r c = true → r < sc ∧ c < sc) : ∀ r s, sqM C q i j r s = addL zeroM (mkL (fun r s => r % q) (fun r s => s % q) (fun r s => decide (r / q = i) && decide (s / q = j)) (cellsL C sc)) r s := fun r s => by
  rw [Bool.eq_iff_iff]
  unfold sqM addL mkL zeroM
  simp only [Bool.and_eq_true, decide_eq_true_eq, Bool.false_or, List.mem_map, List.mem_filter, Prod.mk.injEq]
  constructor
  · rintro ⟨⟨h1, h2⟩, h3⟩
    refine ⟨(i * q + r, j * q + s), ⟨(mem_cellsL hC).2 h3, ?_⟩, ?_⟩
    · exact ⟨(kron_div h1).1, (kron_div h2).1⟩
    · exact ⟨(kron_div h1).2, (kron_div h2).2⟩
  · rintro ⟨x, ⟨hx, h1, h2⟩, rfl, rfl⟩
    have h3 := (mem_cellsL hC).1 hx
    refine ⟨⟨Nat.mod_lt _ hq, Nat.mod_lt _ hq⟩, ?_⟩
    have e1 : i * q + x.1 % q = x.1 := by rw [← h1, Nat.mul_comm]; exact Nat.div_add_mod _ _
    have e2 : j * q + x.2 % q = x.2 := by rw [← h2, Nat.mul_comm]; exact Nat.div_add_mod _ _
    rw [e1, e2]; exact h3
end
end Go.Proofs.YthgjnnghokmjdaaDoor
