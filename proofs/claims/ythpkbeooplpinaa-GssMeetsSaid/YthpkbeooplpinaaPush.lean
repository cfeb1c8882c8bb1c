/-
  Push.
-/
import Derived.Test.YthpkbeooplpinaaAt
namespace Go.Proofs.Ythpkbeooplpinaa
open Go.RowKit
open Go.Maps (Keyed)
set_option linter.unusedVariables false
set_option linter.unusedSimpArgs false
section
set_option maxHeartbeats 1000000
set_option maxRecDepth 100000
theorem push_bad (w : World) (i x y : Int) (B m1 m2 m3 n cap : Nat) (ao : Option Addr) (hn : n < 1000000) (hB : Bk w B 77 #[.slice ao n cap, .map (some m1), .map (some m2), .map (some m3)]) (hi : ¬ (0 ≤ i ∧ i < n) ∨ ¬ (0 ≤ x ∧ x < n)) :
    Calls Try.prog 16 #[.pointer (some ⟨B, 0, none⟩), .int .i64 i, .agg #[.int .i64 x, .int .i64 y]] w fun e w' => e = .returned (.tuple #[.slice none 0 0, .bool false, .int .i64 4]) ∧ Far (fun _ => False) w w' := by
  have hlt := hB.lt
  obtain ⟨w1, hw1⟩ : ∃ w1, w1 = (w.alloc (.cells #[.int .i64 x, .int .i64 y] 38)).alloc (.cells #[.int .i64 i, .int .i64 x] 3) := ⟨_, rfl⟩
  have hA : Bk w1 B 77 #[.slice ao n cap, .map (some m1), .map (some m2), .map (some m3)] := hw1 ▸ (hB.alloc _).alloc _
  have hC : Bk w1 (w.heap.size + 1) 3 #[.int .i64 i, .int .i64 x] := hw1 ▸ Bk.new (by simp)
  have hx : ∀ k, k < 2 → w1.cell? ⟨w.heap.size + 1, 0 + k, none⟩ = some (.int .i64 ((fun k => if k = 0 then i else x) k)) := fun k hk => by
    have : k = 0 ∨ k = 1 := by omega
    rcases this with rfl | rfl
    · exact hC.cell 0
    · exact hC.cell 1
  have CK : Calls Try.prog 31 #[.pointer (some ⟨B, 0, none⟩), .slice (some ⟨w.heap.size + 1, 0, none⟩) 2 2] w1 fun e w' => e = .returned (.int .i64 4) ∧ w1 = w' := by
    rcases hi with hi | hi
    · exact check_bad (fun k => if k = 0 then i else x) 2 (w.heap.size + 1) 0 2 B m1 ao n cap w1 (by omega) hn (hA.cell 0) (hA.cell 1) hx 0 (by omega) hi
    · exact check_bad (fun k => if k = 0 then i else x) 2 (w.heap.size + 1) 0 2 B m1 ao n cap w1 (by omega) hn (hA.cell 0) (hA.cell 1) hx 1 (by omega) hi
  rw [hw1] at CK
  clear hi hA hB hC hx hw1
  go_enter Try.func16, Try.ntmps16
  go_wp2_with fail
  refine CK.mono ?_
  rintro e w' ⟨rfl, rfl⟩
  go_wp2_with fail
  go_ret3
  exact ⟨rfl, ((Far.refl _ w).alloc _).alloc _⟩
theorem push_nil (w : World) (i x y : Int) :
    Calls Try.prog 16 #[.pointer none, .int .i64 i, .agg #[.int .i64 x, .int .i64 y]] w fun e w' => e = .returned (.tuple #[.slice none 0 0, .bool false, .int .i64 1]) ∧ Far (fun _ => False) w w' := by
  go_enter Try.func16, Try.ntmps16
  go_wp2_with fail
  refine (check_nil _ _).mono ?_
  rintro e w' ⟨rfl, rfl⟩
  go_wp2_with fail
  go_ret3
  exact ⟨rfl, ((Far.refl _ w).alloc _).alloc _⟩
end
end Go.Proofs.Ythpkbeooplpinaa
