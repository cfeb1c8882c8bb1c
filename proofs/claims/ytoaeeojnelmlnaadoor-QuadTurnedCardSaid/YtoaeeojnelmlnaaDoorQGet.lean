/-
  Get: is a cell in a matrix?
-/
import Derived.Test.YtoaeeojnelmlnaaDoorQGrow
import Derived.Test.YtoaeeojnelmlnaaDoorQEq
namespace Go.Proofs.YtoaeeojnelmlnaaDoor
open Go.RowKit
set_option linter.unusedVariables false
set_option linter.unusedSimpArgs false
section
variable {w : World} {B side lv root : Nat} {nv lvv : Value} {ns : List (Nat → Nat)} {A : Nat → Nat → Nat → Nat} {ps : List (Nat × Nat)} {M : Nat → Nat → Bool}
/-- Where a leaf lies. -/
theorem Qc.leafAt (h : Qc w B side lv root nv lvv ns A ps M) {i j : Nat} (hn : A 0 i j ≠ 0) : ∃ g cap, lvv = .slice (some ⟨g, 0, none⟩) ps.length cap ∧ A 0 i j - 1 < ps.length ∧ ps[A 0 i j - 1]? = some (i, j) ∧
    (∀ r, r < 64 → w.cell? ⟨g, (A 0 i j - 1) * 64 + r, none⟩ = some (.int .u64 (blk (sub M i j) r : Nat))) ∧ w.rangeAt g ((A 0 i j - 1) * 64) (lrow M (i, j)) ∧ w.there g ((A 0 i j - 1) * 64) 64 := by
  have hp := h.tree.leaf i j hn
  have hlt := (List.getElem?_eq_some_iff.1 hp).1
  obtain ⟨g, cap, rfl, _⟩ := h.leaves.form (by omega)
  have hr := own_range h.leaves (lrows_even M ps) (lrows_get (M := M) hp)
  refine ⟨g, cap, rfl, hlt, hp, fun r hr' => ?_, hr, own_there h.leaves (lrows_even M ps) (lrows_get (M := M) hp)⟩
  exact hr r _ (by
    unfold lrow
    have := Rw_get (blk (sub M i j)) r hr'
    simpa using this)
theorem and_one_u (x c : Nat) (hx : x < 18446744073709551616) : bits .and .u64 ((x : Int) / 2 ^ c) 1 = ((x / 2 ^ c % 2 : Nat) : Int) := by
  have e : ((x : Int) / 2 ^ c) = ((x / 2 ^ c : Nat) : Int) := by simp
  have h1 := bits_and64 (x / 2 ^ c) 1 (Nat.lt_of_le_of_lt (Nat.div_le_self _ _) hx) (by decide)
  rw [e, show ((1 : Int)) = ((1 : Nat) : Int) from rfl, h1, Nat.and_one_is_mod]
theorem wrap64_of {a : Int} (h : -9223372036854775808 ≤ a ∧ a ≤ 9223372036854775807) : wrap64 a = a := IntWalk.wrap64_in a h
theorem bit_is (S : Nat → Nat → Bool) (r c : Nat) (hc : c < 64) : (((blk S r : Nat) : Int) / 2 ^ c % 2 == 1) = S r c := by
  have := blk_bit S r c hc
  rw [Nat.testBit_eq_decide_div_mod_eq] at this
  have e : ((blk S r : Nat) : Int) / 2 ^ c % 2 = ((blk S r / 2 ^ c % 2 : Nat) : Int) := by simp
  rw [← this, e]
  have h2 : blk S r / 2 ^ c % 2 = 0 ∨ blk S r / 2 ^ c % 2 = 1 := by omega
  rcases h2 with h | h <;> rw [h] <;> rfl
section
set_option maxHeartbeats 2000000
set_option maxRecDepth 100000
theorem qget_yes (h : Qd w B side lv root nv lvv ns A ps M) (i j : Nat) (hi : i < side) (hj : j < side) :
    Calls Tryd.prog 36 #[.pointer (some ⟨B, 0, none⟩), .int .i64 i, .int .i64 j] w fun e w' => e = .returned (.tuple #[.bool (M i j), .int .i64 0]) ∧ Far (fun _ => False) w w' := by
  have N := qnone_no h
  have L1 := qline_yes h i hi
  have L2 := qline_yes h j hj
  have hw := h.wide
  have F := find_any h (i / 64) (j / 64) (by omega) (by omega)
  have hs2 := h.side2
  have wi : wrap64 ((i : Int) / 64) = ((i / 64 : Nat) : Int) := by rw [wrap64_of (by omega)]; omega
  have wj : wrap64 ((j : Int) / 64) = ((j / 64 : Nat) : Int) := by rw [wrap64_of (by omega)]; omega
  have h' := Lib.hid h
  have eM : M i j = sub M (i / 64) (j / 64) (i % 64) (j % 64) := by unfold sub; rw [Nat.div_add_mod, Nat.div_add_mod]
  clear h
  go_enter Tryd.func36, Tryd.ntmps36
  go_wp2_with fail
  refine N.mono ?_
  rintro e w' ⟨rfl, rfl⟩
  go_wp2_with fail
  refine L1.mono ?_
  rintro e w' ⟨rfl, rfl⟩
  go_wp2_with fail
  refine L2.mono ?_
  rintro e w' ⟨rfl, rfl⟩
  go_wp2_with fail
  refine F.mono ?_
  rintro e w' ⟨rfl, hf⟩
  have h2 := Lib.hid (h'.out.still hf)
  clear h' N L1 L2 F
  by_cases hn : A 0 (i / 64) (j / 64) = 0
  · have hz : M i j = false := by rw [eM]; exact h2.out.bare _ _ hn _ _ (Nat.mod_lt _ (by decide)) (Nat.mod_lt _ (by decide))
    rw [hn]
    go_wp2_with fail
    go_ret2
    exact ⟨by rw [hz]; rfl, hf⟩
  · obtain ⟨g, cap, rfl, hlt, _, hcell, _⟩ := h2.out.leafAt hn
    have p4 : w'.cell? ⟨B, 4, none⟩ = some (.slice (some ⟨g, 0, none⟩) ps.length cap) := h2.out.box.cell 4
    obtain ⟨n, hN⟩ : ∃ n, A 0 (i / 64) (j / 64) = n := ⟨_, rfl⟩
    rw [hN] at hlt hn hcell ⊢
    have hc := hcell (i % 64) (Nat.mod_lt _ (by decide))
    have hx1 : IntKind.i64.wrap ((n : Int) - 1) = ((n - 1 : Nat) : Int) := by rw [IntKind.wrap_i64]; have := h2.out.many; omega
    have hn0 : ((n : Int) == 0) = false := by simp; omega
    have hb1 := and_one_u (blk (sub M (i / 64) (j / 64)) (i % 64)) (j % 64) (blk_wf _ _ (Nat.mod_lt _ (by decide)))
    have hb2 := bit_is (sub M (i / 64) (j / 64)) (i % 64) (j % 64) (Nat.mod_lt _ (by decide))
    rw [← eM] at hb2
    clear hcell eM hN h2
    go_wp2_with fail
    go_ret2
    exact ⟨rfl, hf⟩
theorem qget_no (h : Qd w B side lv root nv lvv ns A ps M) (i j : Int) (hij : i < 0 ∨ (side : Int) ≤ i ∨ j < 0 ∨ (side : Int) ≤ j) :
    Calls Tryd.prog 36 #[.pointer (some ⟨B, 0, none⟩), .int .i64 i, .int .i64 j] w fun e w' => e = .returned (.tuple #[.bool false, .int .i64 2]) ∧ w' = w := by
  have N := qnone_no h
  by_cases hi : i < 0 ∨ (side : Int) ≤ i
  · have L1 := qline_no h i hi
    clear h
    go_enter Tryd.func36, Tryd.ntmps36
    go_wp2_with fail
    refine N.mono ?_
    rintro e w' ⟨rfl, rfl⟩
    go_wp2_with fail
    refine L1.mono ?_
    rintro e w' ⟨rfl, rfl⟩
    go_wp2_with fail
    go_ret2
    exact ⟨rfl, rfl⟩
  · obtain ⟨k, rfl⟩ : ∃ k : Nat, i = (k : Int) := ⟨i.toNat, by omega⟩
    have L1 := qline_yes h k (by omega)
    have L2 := qline_no h j (by omega)
    clear h
    go_enter Tryd.func36, Tryd.ntmps36
    go_wp2_with fail
    refine N.mono ?_
    rintro e w' ⟨rfl, rfl⟩
    go_wp2_with fail
    refine L1.mono ?_
    rintro e w' ⟨rfl, rfl⟩
    go_wp2_with fail
    refine L2.mono ?_
    rintro e w' ⟨rfl, rfl⟩
    go_wp2_with fail
    go_ret2
    exact ⟨rfl, rfl⟩
theorem qget_nil (w : World) (i j : Int) : Calls Tryd.prog 36 #[.pointer none, .int .i64 i, .int .i64 j] w fun e w' => e = .returned (.tuple #[.bool false, .int .i64 1]) ∧ w' = w := by
  go_enter Tryd.func36, Tryd.ntmps36
  go_wp2_with fail
  refine (qnone_nil w).mono ?_
  rintro e w' ⟨rfl, rfl⟩
  go_wp2_with fail
  go_ret2
  exact ⟨rfl, rfl⟩
end
end
end Go.Proofs.YtoaeeojnelmlnaaDoor
