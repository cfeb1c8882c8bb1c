/-
  The way down the tree.
-/
import Derived.Test.YtoaeeojnelmlnaaDoorQMat
import Derived.Test.YtoaeeojnelmlnaaDoorQSmall
namespace Go.Proofs.YtoaeeojnelmlnaaDoor
open Go.RowKit
set_option linter.unusedVariables false
set_option linter.unusedSimpArgs false
theorem and_one (g j : Nat) : bits .and .i64 ((g : Int) / 2 ^ j) 1 = ((g / 2 ^ j % 2 : Nat) : Int) := by
  have h63 : (BitVec.ofInt 64 1).toNat = 2 ^ 1 - 1 := by decide
  have key : (BitVec.ofInt 64 ((g : Int) / 2 ^ j) &&& BitVec.ofInt 64 1).toNat = (((g : Int) / 2 ^ j) % ((2 ^ 64 : Nat) : Int)).toNat % 2 ^ 1 := by
    rw [BitVec.toNat_and, BitVec.toNat_ofInt, h63, Nat.and_two_pow_sub_one_eq_mod]
  show IntKind.i64.wrap ((BitVec.ofInt 64 ((g : Int) / 2 ^ j) &&& BitVec.ofInt 64 1).toNat : Nat) = _
  have e : (g : Int) / 2 ^ j = ((g / 2 ^ j : Nat) : Int) := by simp
  rw [key, IntKind.wrap_i64, e]
  omega
theorem or_bit : ∀ a, a < 2 → ∀ b, b < 2 → bits .or .i64 (((a : Nat) : Int) * 2) ((b : Nat) : Int) = ((2 * a + b : Nat) : Int) := by decide +kernel
section
set_option maxHeartbeats 1000000
set_option maxRecDepth 100000
theorem part_any (i j l : Nat) (hl : l < 4) (w : World) : Calls Tryd.prog 111 #[.int .i64 i, .int .i64 j, .int .i64 ((l + 1 : Nat) : Int)] w fun e w' => e = .returned (.int .i64 (qd i j l)) ∧ ∃ n, w' = w.drewN n := by
  have e1 : IntKind.i64.wrap (((l + 1 : Nat) : Int) - 1) = (l : Int) := by rw [IntKind.wrap_i64]; omega
  have h1 := and_one i l
  have h2 := and_one j l
  have h3 := or_bit (i / 2 ^ l % 2) (Nat.mod_lt _ (by decide)) (j / 2 ^ l % 2) (Nat.mod_lt _ (by decide))
  have h4 : (2 * (i / 2 ^ l % 2) + j / 2 ^ l % 2) = qd i j l := rfl
  rw [h4] at h3
  have h5 : bits .or .i64 ((i : Int) / 2 ^ l % 2 * 2) ((j : Int) / 2 ^ l % 2) = (qd i j l : Int) := by rw [← h3]; simp
  clear h3
  go_enter Tryd.func111, Tryd.ntmps111
  go_wp2_with fail
  go_quiet (fail)
  go_wp2_with fail
  go_ret
  exact ⟨rfl, _, rfl⟩
theorem node_cell {w : World} {ns : List (Nat → Nat)} {g cap k q : Nat} {f : Nat → Nat} (h : w.ownsRow 0 162 4 (.slice (some ⟨g, 0, none⟩) ns.length cap) ns.length (nrows ns).flatten) (hf : ns[k]? = some f) (hq : q < 4) : w.cell? ⟨g, k * 4 + q, none⟩ = some (.int .i64 (f q : Nat)) := by
  have hk := (List.getElem?_eq_some_iff.1 hf).1
  rw [h.cellAt (k * 4 + q) (by omega), flat_get (nrows_even ns) (nrows_get hf) hq]
  rcases (show q = 0 ∨ q = 1 ∨ q = 2 ∨ q = 3 by omega) with rfl | rfl | rfl | rfl <;> rfl
/-- The way down: the number of the leaf at a place. -/
theorem find_any {w : World} {B side lv root : Nat} {nv lvv : Value} {ns : List (Nat → Nat)} {A : Nat → Nat → Nat → Nat} {ps : List (Nat × Nat)} {M : Nat → Nat → Bool} (h : Qd w B side lv root nv lvv ns A ps M) (i j : Nat) (hi : i < 2 ^ lv) (hj : j < 2 ^ lv) :
    Calls Tryd.prog 87 #[.pointer (some ⟨B, 0, none⟩), .int .i64 i, .int .i64 j] w fun e w' => e = .returned (.int .i64 (A 0 i j)) ∧ Far (fun _ => False) w w' := by
  have p1 : w.cell? ⟨B, 1, none⟩ = some (.int .i64 (lv : Nat)) := h.box.cell 1
  have p2 : w.cell? ⟨B, 2, none⟩ = some (.int .i64 (root : Nat)) := h.box.cell 2
  have h' := Lib.hid h
  have hroot := h.tree.root
  have hlv := h.lv4
  have hmany := h.many
  clear h
  go_enter Tryd.func87, Tryd.ntmps87
  go_wp2_with fail
  go_loopw [7, 8] (fun nv' lvl wr => ∃ l : Nat, l ≤ lv ∧ nv' = .int .i64 (A l (i / 2 ^ l) (j / 2 ^ l) : Nat) ∧ lvl = .int .i64 (l : Nat) ∧ Far (fun _ => False) w wr) (fun _ lvl _ => (intOf lvl).toNat)
  case atStart => exact ⟨lv, Nat.le_refl _, by rw [(Nat.div_eq_zero_iff_lt (Nat.two_pow_pos _)).2 hi, (Nat.div_eq_zero_iff_lt (Nat.two_pow_pos _)).2 hj, hroot], rfl, Far.refl _ w⟩
  case round =>
    obtain ⟨l, hl, rfl, rfl, hfr⟩ := hrel
    have hQ := h'.out.still hfr
    clear p1 p2
    obtain ⟨x, hx⟩ : ∃ x, x = A l (i / 2 ^ l) (j / 2 ^ l) := ⟨_, rfl⟩
    rw [← hx]
    cases l with
    | zero =>
      go_wp2_with fail
      go_ret
      exact ⟨by rw [hx]; simp, hfr⟩
    | succ l =>
      by_cases hx0 : x = 0
      · subst hx0
        have hz := hQ.tree.none hl hx.symm
        go_wp2_with fail
        go_ret
        exact ⟨by rw [hz]; rfl, hfr⟩
      · obtain ⟨f, hf, hq⟩ := hQ.tree.step (i := i) (j := j) (l := l) (by rw [← hx]; exact hx0)
        rw [← hx] at hf
        have hnsl := (List.getElem?_eq_some_iff.1 hf).1
        obtain ⟨g, cap, rfl, _⟩ := hQ.nodes.form (by omega)
        have hcell : wr.cell? ⟨g, (x - 1) * 4 + qd i j l, none⟩ = some (.int .i64 (A l (i / 2 ^ l) (j / 2 ^ l) : Nat)) := by
          rw [← hq]
          exact node_cell hQ.nodes hf (qd_lt i j l)
        have p3 : wr.cell? ⟨B, 3, none⟩ = some (.slice (some ⟨g, 0, none⟩) ns.length cap) := hQ.box.cell 3
        have hqlt := qd_lt i j l
        have PT := fun w => part_any i j l (by omega) w
        rw [show ((l + 1 : Nat) : Int) = (l : Int) + 1 by omega] at PT ⊢
        have hx1 : IntKind.i64.wrap ((x : Int) - 1) = ((x - 1 : Nat) : Int) := by rw [IntKind.wrap_i64]; omega
        have hxl : x - 1 < ns.length := hnsl
        have hl1 : IntKind.i64.wrap (((l + 1 : Nat) : Int) - 1) = (l : Int) := by rw [IntKind.wrap_i64]; omega
        clear hf hq hx hQ
        go_wp2_with fail
        go_quiet ((go_at_call 111; exact Calls.quiet_of (PT _)))
        go_wp2_with fail
        go_roundw
        case rel => exact ⟨l, by omega, rfl, rfl, hfr.drewN _⟩
        case measure => simp [intOf]
end
end Go.Proofs.YtoaeeojnelmlnaaDoor
