/-
  Frames, Pops: copies of what a node has.
-/
import Derived.Test.YthpkbeooplpinaaKeep
namespace Go.Proofs.Ythpkbeooplpinaa
open Go.RowKit
set_option linter.unusedVariables false
set_option linter.unusedSimpArgs false
theorem row_base2 {w : World} {base base' : Nat} {e : TypeId} {size : Nat} {v : Value} {n : Nat} {xs : List Value} (h : w.ownsRow base e size v n xs) (hb : base' ≤ base) : w.ownsRow base' e size v n xs := by
  refine ⟨h.1, ?_⟩
  rcases h.2 with h' | ⟨g, cap, cur, h', hbg, r⟩
  · exact .inl h'
  · exact .inr ⟨g, cap, cur, h', Nat.le_trans hb hbg, r⟩
section
set_option maxHeartbeats 1000000
set_option maxRecDepth 100000
theorem frames_bad (w : World) (i : Int) (B m1 m2 m3 n cap : Nat) (ao : Option Addr) (hn : n < 1000000) (hB : Bk w B 77 #[.slice ao n cap, .map (some m1), .map (some m2), .map (some m3)]) (hi : ¬ (0 ≤ i ∧ i < n)) :
    Calls Try.prog 19 #[.pointer (some ⟨B, 0, none⟩), .int .i64 i] w fun e w' => e = .returned (.tuple #[.slice none 0 0, .int .i64 4]) ∧ Far (fun _ => False) w w' := by
  have hlt := hB.lt
  have hA : Bk (w.alloc (.cells #[.int .i64 i] 3)) B 77 #[.slice ao n cap, .map (some m1), .map (some m2), .map (some m3)] := hB.alloc _
  have CK := check_bad (fun _ => i) 1 w.heap.size 0 1 B m1 ao n cap (w.alloc (.cells #[.int .i64 i] 3)) (by omega) hn (hA.cell 0) (hA.cell 1) (fun k hk => by
    have : k = 0 := by omega
    subst this
    exact Bk.cell (Bk.new rfl) 0) 0 (by omega) hi
  clear hi hA hB
  go_enter Try.func19, Try.ntmps19
  go_wp2_with fail
  refine CK.mono ?_
  rintro e w' ⟨rfl, rfl⟩
  go_wp2_with fail
  go_ret2
  exact ⟨rfl, (Far.refl _ w).alloc _⟩
theorem pops_bad (w : World) (i : Int) (B m1 m2 m3 n cap : Nat) (ao : Option Addr) (hn : n < 1000000) (hB : Bk w B 77 #[.slice ao n cap, .map (some m1), .map (some m2), .map (some m3)]) (hi : ¬ (0 ≤ i ∧ i < n)) :
    Calls Try.prog 20 #[.pointer (some ⟨B, 0, none⟩), .int .i64 i] w fun e w' => e = .returned (.tuple #[.slice none 0 0, .int .i64 4]) ∧ Far (fun _ => False) w w' := by
  have hlt := hB.lt
  have hA : Bk (w.alloc (.cells #[.int .i64 i] 3)) B 77 #[.slice ao n cap, .map (some m1), .map (some m2), .map (some m3)] := hB.alloc _
  have CK := check_bad (fun _ => i) 1 w.heap.size 0 1 B m1 ao n cap (w.alloc (.cells #[.int .i64 i] 3)) (by omega) hn (hA.cell 0) (hA.cell 1) (fun k hk => by
    have : k = 0 := by omega
    subst this
    exact Bk.cell (Bk.new rfl) 0) 0 (by omega) hi
  clear hi hA hB
  go_enter Try.func20, Try.ntmps20
  go_wp2_with fail
  refine CK.mono ?_
  rintro e w' ⟨rfl, rfl⟩
  go_wp2_with fail
  go_ret2
  exact ⟨rfl, (Far.refl _ w).alloc _⟩
theorem frames_nil (w : World) (i : Int) : Calls Try.prog 19 #[.pointer none, .int .i64 i] w fun e w' => e = .returned (.tuple #[.slice none 0 0, .int .i64 1]) ∧ Far (fun _ => False) w w' := by
  go_enter Try.func19, Try.ntmps19
  go_wp2_with fail
  refine (check_nil _ _).mono ?_
  rintro e w' ⟨rfl, rfl⟩
  go_wp2_with fail
  go_ret2
  exact ⟨rfl, (Far.refl _ w).alloc _⟩
theorem pops_nil (w : World) (i : Int) : Calls Try.prog 20 #[.pointer none, .int .i64 i] w fun e w' => e = .returned (.tuple #[.slice none 0 0, .int .i64 1]) ∧ Far (fun _ => False) w w' := by
  go_enter Try.func20, Try.ntmps20
  go_wp2_with fail
  refine (check_nil _ _).mono ?_
  rintro e w' ⟨rfl, rfl⟩
  go_wp2_with fail
  go_ret2
  exact ⟨rfl, (Far.refl _ w).alloc _⟩
theorem at_nil (w : World) (i : Int) : Calls Try.prog 18 #[.pointer none, .int .i64 i] w fun e w' => e = .returned (.tuple #[.int .i64 0, .int .i64 0, .int .i64 1]) ∧ Far (fun _ => False) w w' := by
  go_enter Try.func18, Try.ntmps18
  go_wp2_with fail
  refine (check_nil _ _).mono ?_
  rintro e w' ⟨rfl, rfl⟩
  go_wp2_with fail
  go_ret3
  exact ⟨rfl, (Far.refl _ w).alloc _⟩
theorem node_nil (w : World) (a b : Int) : Calls Try.prog 9 #[.pointer none, .int .i64 a, .int .i64 b] w fun e w' => e = .returned (.tuple #[.int .i64 0, .bool false]) ∧ Far (fun _ => False) w w' := by
  go_enter Try.func9, Try.ntmps9
  go_wp2_with fail
  refine (none_nil _).mono ?_
  rintro e w' ⟨rfl, rfl⟩
  go_wp2_with fail
  go_ret2
  exact ⟨rfl, Far.refl _ w⟩
theorem len_nil (w : World) : Calls Try.prog 15 #[.pointer none] w fun e w' => e = .returned (.int .i64 0) ∧ w = w' := by
  go_enter Try.func15, Try.ntmps15
  go_wp2_with fail
  refine (none_nil _).mono ?_
  rintro e w' ⟨rfl, rfl⟩
  go_wp2_with fail
  go_ret
  exact ⟨rfl, rfl⟩
theorem frames_ok (w : World) (i : Nat) (B m1 m2 m3 n g cap nf : Nat) (v : Value) (xs : List Value) (hn : n < 1000000) (hnf : nf < 1000000) (hB : Bk w B 77 #[.slice (some ⟨g, 0, none⟩) n cap, .map (some m1), .map (some m2), .map (some m3)]) (hi : i < n)
    (k0 : w.cell? ⟨g, i * 4 + 2, none⟩ = some v) (hv : w.ownsRow 0 38 2 v nf xs) (h1 : ∀ u ∈ xs, u.oneCell' = true) :
    Calls Try.prog 19 #[.pointer (some ⟨B, 0, none⟩), .int .i64 i] w fun e w' => ∃ h, e = .returned (.tuple #[.slice (some ⟨h, 0, none⟩) nf nf, .int .i64 0]) ∧ w.heap.size ≤ h ∧ w'.ownsRow w.heap.size 38 2 (.slice (some ⟨h, 0, none⟩) nf nf) nf xs ∧ Far (fun _ => False) w w' := by
  have hlt := hB.lt
  have hg : g < w.heap.size := World.block_lt_of_cell? w _ k0
  have hA : Bk (w.alloc (.cells #[.int .i64 i] 3)) B 77 #[.slice (some ⟨g, 0, none⟩) n cap, .map (some m1), .map (some m2), .map (some m3)] := hB.alloc _
  have p0 : w.cell? ⟨B, 0, none⟩ = some (.slice (some ⟨g, 0, none⟩) n cap) := hB.cell 0
  have CK := check_ok (fun _ => (i : Int)) 1 w.heap.size 0 1 B m1 (some ⟨g, 0, none⟩) n cap (w.alloc (.cells #[.int .i64 i] 3)) (by omega) hn (hA.cell 0) (hA.cell 1) (fun k hk => by
    have : k = 0 := by omega
    subst this
    exact Bk.cell (Bk.new rfl) 0) (fun k _ => by simp; omega)
  have SF := sofar_frame (w.alloc (.cells #[.int .i64 i] 3)) 0 nf v xs hnf (hv.alloc _) h1
  have hi1 : (i : Int) < (n : Int) := by omega
  clear hA hB hv
  go_enter Try.func19, Try.ntmps19
  go_wp2_with fail
  refine CK.mono ?_
  rintro e w' ⟨rfl, rfl⟩
  go_wp2_with fail
  refine SF.mono ?_
  rintro e w' ⟨rfl, ho, hg'⟩
  have ho' := Lib.hid ho
  have hg'' := Lib.hid hg'
  clear ho hg' SF
  go_wp2_with fail
  go_ret2
  have ho2 := ho'.out
  rw [show (w.alloc (.cells #[.int .i64 i] 3)).heap.size = w.heap.size + 1 by simp] at ho2
  exact ⟨_, rfl, by omega, row_base2 ho2 (by omega), ((Far.refl _ w).alloc _).grown hg''.out (fun _ _ e => by cases e)⟩
theorem pops_ok (w : World) (i : Nat) (B m1 m2 m3 n g cap nf : Nat) (v : Value) (xs : List Value) (hn : n < 1000000) (hnf : nf < 1000000) (hB : Bk w B 77 #[.slice (some ⟨g, 0, none⟩) n cap, .map (some m1), .map (some m2), .map (some m3)]) (hi : i < n)
    (k0 : w.cell? ⟨g, i * 4 + 3, none⟩ = some v) (hv : w.ownsRow 0 3 1 v nf xs) (h1 : ∀ u ∈ xs, u.oneCell' = true) :
    Calls Try.prog 20 #[.pointer (some ⟨B, 0, none⟩), .int .i64 i] w fun e w' => ∃ h, e = .returned (.tuple #[.slice (some ⟨h, 0, none⟩) nf nf, .int .i64 0]) ∧ w.heap.size ≤ h ∧ w'.ownsRow w.heap.size 3 1 (.slice (some ⟨h, 0, none⟩) nf nf) nf xs ∧ Far (fun _ => False) w w' := by
  have hlt := hB.lt
  have hg : g < w.heap.size := World.block_lt_of_cell? w _ k0
  have hA : Bk (w.alloc (.cells #[.int .i64 i] 3)) B 77 #[.slice (some ⟨g, 0, none⟩) n cap, .map (some m1), .map (some m2), .map (some m3)] := hB.alloc _
  have p0 : w.cell? ⟨B, 0, none⟩ = some (.slice (some ⟨g, 0, none⟩) n cap) := hB.cell 0
  have CK := check_ok (fun _ => (i : Int)) 1 w.heap.size 0 1 B m1 (some ⟨g, 0, none⟩) n cap (w.alloc (.cells #[.int .i64 i] 3)) (by omega) hn (hA.cell 0) (hA.cell 1) (fun k hk => by
    have : k = 0 := by omega
    subst this
    exact Bk.cell (Bk.new rfl) 0) (fun k _ => by simp; omega)
  have SF := sofar_int (w.alloc (.cells #[.int .i64 i] 3)) 0 nf v xs hnf (hv.alloc _) h1
  have hi1 : (i : Int) < (n : Int) := by omega
  clear hA hB hv
  go_enter Try.func20, Try.ntmps20
  go_wp2_with fail
  refine CK.mono ?_
  rintro e w' ⟨rfl, rfl⟩
  go_wp2_with fail
  refine SF.mono ?_
  rintro e w' ⟨rfl, ho, hg'⟩
  have ho' := Lib.hid ho
  have hg'' := Lib.hid hg'
  clear ho hg' SF
  go_wp2_with fail
  go_ret2
  have ho2 := ho'.out
  rw [show (w.alloc (.cells #[.int .i64 i] 3)).heap.size = w.heap.size + 1 by simp] at ho2
  exact ⟨_, rfl, by omega, row_base2 ho2 (by omega), ((Far.refl _ w).alloc _).grown hg''.out (fun _ _ e => by cases e)⟩
end
end Go.Proofs.Ythpkbeooplpinaa
