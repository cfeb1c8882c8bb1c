/-
  At, Len.
-/
import Derived.Test.YthpkbeooplpinaaNode
namespace Go.Proofs.Ythpkbeooplpinaa
open Go.RowKit
set_option linter.unusedVariables false
set_option linter.unusedSimpArgs false
section
set_option maxHeartbeats 1000000
set_option maxRecDepth 100000
theorem len_any (w : World) (B m1 m2 m3 n cap : Nat) (ao : Option Addr) (hB : Bk w B 77 #[.slice ao n cap, .map (some m1), .map (some m2), .map (some m3)]) :
    Calls Try.prog 15 #[.pointer (some ⟨B, 0, none⟩)] w fun e w' => e = .returned (.int .i64 n) ∧ w = w' := by
  have p0 : w.cell? ⟨B, 0, none⟩ = some (.slice ao n cap) := hB.cell 0
  have p1 : w.cell? ⟨B, 1, none⟩ = some (.map (some m1)) := hB.cell 1
  clear hB
  go_enter Try.func15, Try.ntmps15
  go_wp2_with fail
  refine (none_no w B m1 p1).mono ?_
  rintro e w' ⟨rfl, rfl⟩
  go_wp2_with fail
  go_ret
  exact ⟨rfl, rfl⟩
theorem at_bad (w : World) (i : Int) (B m1 m2 m3 n cap : Nat) (ao : Option Addr) (hn : n < 1000000) (hB : Bk w B 77 #[.slice ao n cap, .map (some m1), .map (some m2), .map (some m3)]) (hi : ¬ (0 ≤ i ∧ i < n)) :
    Calls Try.prog 18 #[.pointer (some ⟨B, 0, none⟩), .int .i64 i] w fun e w' => e = .returned (.tuple #[.int .i64 0, .int .i64 0, .int .i64 4]) ∧ Far (fun _ => False) w w' := by
  have hlt := hB.lt
  have hA : Bk (w.alloc (.cells #[.int .i64 i] 3)) B 77 #[.slice ao n cap, .map (some m1), .map (some m2), .map (some m3)] := hB.alloc _
  have CK := check_bad (fun _ => i) 1 w.heap.size 0 1 B m1 ao n cap (w.alloc (.cells #[.int .i64 i] 3)) (by omega) hn (hA.cell 0) (hA.cell 1) (fun k hk => by
    have : k = 0 := by omega
    subst this
    exact Bk.cell (Bk.new rfl) 0) 0 (by omega) hi
  clear hi hA hB
  go_enter Try.func18, Try.ntmps18
  go_wp2_with fail
  refine CK.mono ?_
  rintro e w' ⟨rfl, rfl⟩
  go_wp2_with fail
  go_ret3
  exact ⟨rfl, (Far.refl _ w).alloc _⟩
theorem at_ok (w : World) (i : Nat) (mk pl : Int) (B m1 m2 m3 n g cap : Nat) (hn : n < 1000000) (hB : Bk w B 77 #[.slice (some ⟨g, 0, none⟩) n cap, .map (some m1), .map (some m2), .map (some m3)]) (hi : i < n)
    (k0 : w.cell? ⟨g, i * 4, none⟩ = some (.int .i64 mk)) (k1 : w.cell? ⟨g, i * 4 + 1, none⟩ = some (.int .i64 pl)) :
    Calls Try.prog 18 #[.pointer (some ⟨B, 0, none⟩), .int .i64 i] w fun e w' => e = .returned (.tuple #[.int .i64 mk, .int .i64 pl, .int .i64 0]) ∧ Far (fun _ => False) w w' := by
  have hlt := hB.lt
  have hg : g < w.heap.size := World.block_lt_of_cell? w _ k0
  have hA : Bk (w.alloc (.cells #[.int .i64 i] 3)) B 77 #[.slice (some ⟨g, 0, none⟩) n cap, .map (some m1), .map (some m2), .map (some m3)] := hB.alloc _
  have p0 : w.cell? ⟨B, 0, none⟩ = some (.slice (some ⟨g, 0, none⟩) n cap) := hB.cell 0
  have CK := check_ok (fun _ => (i : Int)) 1 w.heap.size 0 1 B m1 (some ⟨g, 0, none⟩) n cap (w.alloc (.cells #[.int .i64 i] 3)) (by omega) hn (hA.cell 0) (hA.cell 1) (fun k hk => by
    have : k = 0 := by omega
    subst this
    exact Bk.cell (Bk.new rfl) 0) (fun k _ => by simp; omega)
  have hi1 : (i : Int) < (n : Int) := by omega
  clear hA hB
  go_enter Try.func18, Try.ntmps18
  go_wp2_with fail
  refine CK.mono ?_
  rintro e w' ⟨rfl, rfl⟩
  go_wp2_with fail
  go_quiet (fail)
  go_wp2_with fail
  go_ret3
  exact ⟨rfl, ((Far.refl _ w).alloc _).drewN _⟩
end
end Go.Proofs.Ythpkbeooplpinaa
