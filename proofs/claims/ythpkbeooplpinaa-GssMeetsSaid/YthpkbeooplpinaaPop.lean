/-
  Pop: bad numbers, no stack, a pop that was met before.
-/
import Derived.Test.YthpkbeooplpinaaBump
namespace Go.Proofs.Ythpkbeooplpinaa
open Go.RowKit
open Go.Maps (Keyed)
set_option linter.unusedVariables false
set_option linter.unusedSimpArgs false
section
set_option maxHeartbeats 1000000
set_option maxRecDepth 100000
theorem pop_nil (w : World) (i y : Int) :
    Calls Try.prog 17 #[.pointer none, .int .i64 i, .int .i64 y] w fun e w' => e = .returned (.tuple #[.slice none 0 0, .bool false, .int .i64 1]) ∧ Far (fun _ => False) w w' := by
  go_enter Try.func17, Try.ntmps17
  go_wp2_with fail
  refine (check_nil _ _).mono ?_
  rintro e w' ⟨rfl, rfl⟩
  go_wp2_with fail
  go_ret3
  exact ⟨rfl, (Far.refl _ w).alloc _⟩
theorem pop_bad (w : World) (i y : Int) (B m1 m2 m3 n cap : Nat) (ao : Option Addr) (hn : n < 1000000) (hB : Bk w B 77 #[.slice ao n cap, .map (some m1), .map (some m2), .map (some m3)]) (hi : ¬ (0 ≤ i ∧ i < n)) :
    Calls Try.prog 17 #[.pointer (some ⟨B, 0, none⟩), .int .i64 i, .int .i64 y] w fun e w' => e = .returned (.tuple #[.slice none 0 0, .bool false, .int .i64 4]) ∧ Far (fun _ => False) w w' := by
  have hlt := hB.lt
  have hA : Bk (w.alloc (.cells #[.int .i64 i] 3)) B 77 #[.slice ao n cap, .map (some m1), .map (some m2), .map (some m3)] := hB.alloc _
  have CK := check_bad (fun _ => i) 1 w.heap.size 0 1 B m1 ao n cap (w.alloc (.cells #[.int .i64 i] 3)) (by omega) hn (hA.cell 0) (hA.cell 1) (fun k hk => by
    have : k = 0 := by omega
    subst this
    exact Bk.cell (Bk.new rfl) 0) 0 (by omega) hi
  clear hi hA hB
  go_enter Try.func17, Try.ntmps17
  go_wp2_with fail
  refine CK.mono ?_
  rintro e w' ⟨rfl, rfl⟩
  go_wp2_with fail
  go_ret3
  exact ⟨rfl, (Far.refl _ w).alloc _⟩
end
end Go.Proofs.Ythpkbeooplpinaa
