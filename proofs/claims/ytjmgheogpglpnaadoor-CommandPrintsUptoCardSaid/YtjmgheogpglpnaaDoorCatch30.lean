/-
  What is deferred in the program's read: a line that is wrong is caught.
-/
import Derived.Test.YtjmgheogpglpnaaDoorNames30
import Derived.Recover
namespace Go.Proofs.YtjmgheogpglpnaaDoor
open Go.RowKit
set_option linter.unusedVariables false
set_option linter.unusedSimpArgs false
theorem wrong_plain : Tryd.prog.underlying 63 = some (.struct #[]) := by kernel_rfl
theorem assert_wrong (xT : TypeId) (w : World) : (Instr.typeAssert (.iface 63 (.agg #[])) xT 63 true).run Tryd.prog w = .ok (.tuple #[.agg #[], .bool true]) w := by
  simp [Instr.typeAssert, run_underlying wrong_plain, go_sem, Result.andThen]
section
set_option maxHeartbeats 4000000
set_option maxRecDepth 100000
theorem catch_idle (kc ke : Nat) (w : World) :
    CallsD Tryd.prog 33 #[.pointer (some ⟨kc, 0, none⟩), .pointer (some ⟨ke, 0, none⟩)] .returning w fun e u' w' => e = .returned (.tuple #[]) ∧ u' = .returning ∧ w' = w := by
  refine callsD_of_wpS Tryd.func33 rfl fun c₀ cs hu => ?_
  apply wpS_seq
  apply wpS_region
  simp [wpOpsS, go_sem, recoverD, hu, Tryd.ntmps33, Exit.thenS]
  refine wpS_of_wp ?_
  go_wp2_with fail
  cases c₀
  simp_all [bodyPostS, results, Tryd.results33]
theorem catch_wrong (kc ke : Nat) (cs0 : Array Value) (x0 : Value) (older : List PanicEntry) (w : World) (hc : Bk w kc 27 cs0) (h5 : cs0.size = 5) (he : Bk w ke 28 #[x0]) (hne : kc ≠ ke) :
    CallsD Tryd.prog 33 #[.pointer (some ⟨kc, 0, none⟩), .pointer (some ⟨ke, 0, none⟩)] (.panicking ({ v := .iface 63 (.agg #[]), recovered := false } :: older)) w fun e u' w' =>
      e = .returned (.tuple #[]) ∧ u' = .panicking ({ v := .iface 63 (.agg #[]), recovered := true } :: older) ∧ Far (fun k => k = kc ∨ k = ke) w w' ∧ Bk w' kc 27 #[.int .i64 0, .int .i64 0, .slice none 0 0, .slice none 0 0, .string ⟨#[]⟩] ∧ Bk w' ke 28 #[.int .i64 401] := by
  obtain ⟨c1, c2, c3, c4, c5, rfl⟩ : ∃ a b c d e, cs0 = #[a, b, c, d, e] := by
    rcases cs0 with ⟨l⟩
    match l, h5 with
    | [a, b, c, d, e], _ => exact ⟨a, b, c, d, e, rfl⟩
  have f0 := hc.free 0
  have f1 := hc.free 1
  have f2 := hc.free 2
  have f3 := hc.free 3
  have f4 := hc.free 4
  have g0 := he.free 0
  have k0 : w.cell? ⟨kc, 0, none⟩ = some c1 := hc.cell 0
  have k1 : w.cell? ⟨kc, 1, none⟩ = some c2 := hc.cell 1
  have k2 : w.cell? ⟨kc, 2, none⟩ = some c3 := hc.cell 2
  have k3 : w.cell? ⟨kc, 3, none⟩ = some c4 := hc.cell 3
  have k4 : w.cell? ⟨kc, 4, none⟩ = some c5 := hc.cell 4
  have k5 : w.cell? ⟨ke, 0, none⟩ = some x0 := he.cell 0
  have l1 := hc.lt
  have l2 := he.lt
  have n1 : kc ≠ w.heap.size := by omega
  have n2 : ke ≠ w.heap.size := by omega
  have AW := assert_wrong
  have hne2 : ke ≠ kc := fun e => hne e.symm
  refine callsD_of_wpS Tryd.func33 rfl fun c₀ cs hu => ?_
  apply wpS_seq
  apply wpS_region
  simp [wpOpsS, go_sem, recoverD, hu, Tryd.ntmps33, Exit.thenS]
  refine wpS_of_wp ?_
  go_wp2_with fail
  have hF : Far (fun k => k = kc ∨ k = ke) w (((((((w.setCell ⟨kc, 0, none⟩ (.int .i64 0)).setCell ⟨kc, 1, none⟩ (.int .i64 0)).setCell ⟨kc, 2, none⟩ (.slice none 0 0)).setCell ⟨kc, 3, none⟩ (.slice none 0 0)).setCell ⟨kc, 4, none⟩ (.string ⟨#[]⟩)).setCell ⟨ke, 0, none⟩ (.int .i64 401)).alloc (.cells #[] 63)) :=
    ((((((Far.refl (fun k => k = kc ∨ k = ke) w).set ⟨kc, 0, none⟩ (.int .i64 0) (fun _ => .inl rfl)).set ⟨kc, 1, none⟩ (.int .i64 0) (fun _ => .inl rfl)).set ⟨kc, 2, none⟩ (.slice none 0 0) (fun _ => .inl rfl)).set ⟨kc, 3, none⟩ (.slice none 0 0) (fun _ => .inl rfl)).set ⟨kc, 4, none⟩ (.string ⟨#[]⟩) (fun _ => .inl rfl)).set ⟨ke, 0, none⟩ (.int .i64 401) (fun _ => .inr rfl) |>.alloc _
  have hC := ((((((hc.set 0 (.int .i64 0)).set 1 (.int .i64 0)).set 2 (.slice none 0 0)).set 3 (.slice none 0 0)).set 4 (.string ⟨#[]⟩)).far (p := ⟨ke, 0, none⟩) hne (.int .i64 401)).alloc (.cells #[] 63)
  have hE := ((((((he.far (p := ⟨kc, 0, none⟩) hne2 (.int .i64 0)).far (p := ⟨kc, 1, none⟩) hne2 (.int .i64 0)).far (p := ⟨kc, 2, none⟩) hne2 (.slice none 0 0)).far (p := ⟨kc, 3, none⟩) hne2 (.slice none 0 0)).far (p := ⟨kc, 4, none⟩) hne2 (.string ⟨#[]⟩)).set 0 (.int .i64 401)).alloc (.cells #[] 63)
  refine ⟨rfl, _, rfl, .tuple #[], ?_, rfl, rfl, hF, hC, hE⟩
  simp [results, Tryd.results33]
end
end Go.Proofs.YtjmgheogpglpnaaDoor
