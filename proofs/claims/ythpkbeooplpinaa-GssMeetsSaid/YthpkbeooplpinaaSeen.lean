/-
  Push on a frame that was met before.
-/
import Derived.Test.YthpkbeooplpinaaBump
namespace Go.Proofs.Ythpkbeooplpinaa
open Go.RowKit
open Go.Maps (Keyed)
set_option linter.unusedVariables false
set_option linter.unusedSimpArgs false
section
set_option maxHeartbeats 1000000
set_option maxRecDepth 100000
theorem push_seen (w : World) (i x : Nat) (y c : Int) (B m1 m2 m3 n cap K : Nat) (ao : Option Addr) (c2 : Value → Option Int) (hn : n < 1000000) (hK : K < 1000000)
    (hB : Bk w B 77 #[.slice ao n cap, .map (some m1), .map (some m2), .map (some m3)]) (hi : i < n) (hx : x < n) (hy : Fit y)
    (hT : Tally w 88 m2 K c2) (hc : c2 (tr i x y) = some c) (hc1 : 1 ≤ c) (hcK : c < 1000000) :
    Calls Try.prog 16 #[.pointer (some ⟨B, 0, none⟩), .int .i64 i, .agg #[.int .i64 x, .int .i64 y]] w fun e w' => e = .returned (.tuple #[.slice none 0 0, .bool false, .int .i64 0]) ∧
      Tally w' 88 m2 (K + 1) (putAt c2 (tr i x y) (c + 1)) ∧ Far (fun k => k = m2) w w' := by
  have hlt := hB.lt
  have hm2 := hT.lt
  have hBm : B ≠ m2 := fun e => hT.notCells (by rw [← e]; exact hB)
  obtain ⟨l, hl⟩ := key_arr3 (a := i) (b := x) (c := y) (by unfold Fit; omega) (by unfold Fit; omega) hy
  obtain ⟨w1, hw1⟩ : ∃ w1, w1 = (w.alloc (.cells #[.int .i64 x, .int .i64 y] 38)).alloc (.cells #[.int .i64 i, .int .i64 x] 3) := ⟨_, rfl⟩
  have hA : Bk w1 B 77 #[.slice ao n cap, .map (some m1), .map (some m2), .map (some m3)] := hw1 ▸ (hB.alloc _).alloc _
  have hC : Bk w1 (w.heap.size + 1) 3 #[.int .i64 i, .int .i64 x] := hw1 ▸ Bk.new (by simp)
  have hxx : ∀ k, k < 2 → w1.cell? ⟨w.heap.size + 1, 0 + k, none⟩ = some (.int .i64 ((fun k => if k = 0 then (i : Int) else x) k)) := fun k hk => by
    have : k = 0 ∨ k = 1 := by omega
    rcases this with rfl | rfl
    · exact hC.cell 0
    · exact hC.cell 1
  have CK := check_ok (fun k => if k = 0 then (i : Int) else x) 2 (w.heap.size + 1) 0 2 B m1 ao n cap w1 (by omega) hn (hA.cell 0) (hA.cell 1) hxx (fun k _ => by split <;> omega)
  rw [hw1] at CK
  -- the world behind the key's variable
  obtain ⟨w2, hw2⟩ : ∃ w2, w2 = ((w.alloc (.cells #[.int .i64 x, .int .i64 y] 38)).alloc (.cells #[.int .i64 i, .int .i64 x] 3)).alloc (.cells #[.int .i64 i, .int .i64 x, .int .i64 y] 88) := ⟨_, rfl⟩
  have hA2 : Bk w2 B 77 #[.slice ao n cap, .map (some m1), .map (some m2), .map (some m3)] := hw2 ▸ ((hB.alloc _).alloc _).alloc _
  have hK2 : Bk w2 (w.heap.size + 2) 88 #[.int .i64 i, .int .i64 x, .int .i64 y] := hw2 ▸ Bk.new (by simp)
  have hT2 : Tally w2 88 m2 K c2 := hw2 ▸ ((hT.alloc _).alloc _).alloc _
  have hF2 : Far (fun _ => False) w w2 := hw2 ▸ (((Far.refl _ w).alloc _).alloc _).alloc _
  have CK' := Lib.hid CK
  have hA2' := Lib.hid hA2
  have hK2' := Lib.hid hK2
  have hT2' := Lib.hid hT2
  have hc' := Lib.hid hc
  have hl' := Lib.hid hl
  have hw2' := Lib.hid hw2
  clear CK hA2 hK2 hT2 hc hl hw2 hA hB hT hC hxx hw1
  go_enter Try.func16, Try.ntmps16
  go_wp2_with fail
  refine CK'.out.mono ?_
  rintro e w' ⟨rfl, rfl⟩
  go_wp2_with fail
  rw [← hw2'.out]
  have p2 : w2.cell? ⟨B, 2, none⟩ = some (.map (some m2)) := hA2'.out.cell 2
  have s0 : w2.cell? ⟨w.heap.size + 2, 0, none⟩ = some (.int .i64 i) := hK2'.out.cell 0
  have s1 : w2.cell? ⟨w.heap.size + 2, 1, none⟩ = some (.int .i64 x) := hK2'.out.cell 1
  have s2 : w2.cell? ⟨w.heap.size + 2, 2, none⟩ = some (.int .i64 y) := hK2'.out.cell 2
  obtain ⟨v0, st, w3, hme, hg3, _, hst⟩ := (hT2'.out.drew).bump law_arr3 Try.underlying73 (by unfold maxLen; omega) hl'.out
  obtain ⟨w4, hes, hT4, hg4⟩ := hst w3 (c + 1) rfl (wf_fit (by unfold Fit; omega))
  have LK3 := look_behind (hT2'.out.drew) law_arr3 Try.underlying73 hl'.out hme
  rw [hc'.out] at LK3
  have LK : (Instr.lookup 73 (.map (some m2)) (.agg #[.int .i64 i, .int .i64 x, .int .i64 y]) false).run Try.prog w2.drew = .ok (.int .i64 c) w2.drew := by
    have := (hT2'.out.drew).look (Keyed.of_law law_arr3) Try.underlying73 hl'.out
    rw [hc'.out] at this
    exact this
  have hme' : (Instr.mapEntry 73 (.map (some m2)) (.agg #[.int .i64 i, .int .i64 x, .int .i64 y])).run Try.prog w2.drew = .ok (.tuple #[v0, .int .i64 st]) w3 := hme
  have hes' : (Instr.entryStore 73 (.map (some m2)) (.int .i64 st) (.int .i64 (c + 1))).run Try.prog w3 = .ok () w4 := hes
  have LK3' : (Instr.lookup 73 (.map (some m2)) (.agg #[.int .i64 i, .int .i64 x, .int .i64 y]) false).run Try.prog w3 = .ok (.int .i64 c) w3 := LK3
  have hT4' := Lib.hid hT4
  have hg4' := Lib.hid hg4
  have hg3' := Lib.hid hg3
  clear hT4 hg4 hg3 hme hes hst LK3
  go_region
  have hH : w.heap.size + 2 ≠ m2 := by omega
  have hA4 : Bk w4 B 77 #[.slice ao n cap, .map (some m1), .map (some m2), .map (some m3)] := (Bk.grown (w := w2.drew) hA2'.out hg3'.out (fun e => hBm (Option.some.inj e))).grown hg4'.out (fun e => hBm (Option.some.inj e))
  have hK4 : Bk w4 (w.heap.size + 2) 88 #[.int .i64 i, .int .i64 x, .int .i64 y] := (Bk.grown (w := w2.drew) hK2'.out hg3'.out (fun e => hH (Option.some.inj e))).grown hg4'.out (fun e => hH (Option.some.inj e))
  have r2 : w4.cell? ⟨B, 2, none⟩ = some (.map (some m2)) := hA4.cell 2
  have t0 : w4.cell? ⟨w.heap.size + 2, 0, none⟩ = some (.int .i64 i) := hK4.cell 0
  have t1 : w4.cell? ⟨w.heap.size + 2, 1, none⟩ = some (.int .i64 x) := hK4.cell 1
  have t2 : w4.cell? ⟨w.heap.size + 2, 2, none⟩ = some (.int .i64 y) := hK4.cell 2
  have LK4 : ∀ q : Nat, (Instr.lookup 73 (.map (some m2)) (.agg #[.int .i64 i, .int .i64 x, .int .i64 y]) false).run Try.prog (w4.drewN q) = .ok (.int .i64 (c + 1)) (w4.drewN q) := fun q => by
    have := (hT4'.out.drewN q).look (Keyed.of_law law_arr3) Try.underlying73 hl'.out
    rw [show (Value.agg #[.int .i64 i, .int .i64 x, .int .i64 y]) = tr i x y from rfl] at *
    rw [putAt_same] at this
    exact this
  have d1 : decide (1 < c + 1) = true := by rw [decide_eq_true_eq]; omega
  have hA4' := Lib.hid hA4
  have hK4' := Lib.hid hK4
  clear hA4 hK4 LK LK3' hme' hes' p2 s0 s1 s2
  go_wp2_with fail
  go_quiet (fail)
  go_wp2_with fail
  go_ret3
  exact ⟨rfl, hT4'.out.drewN _, ((((hF2.mono (G := fun k => k = m2) (fun _ _ h => h.elim)).drew).grown hg3'.out (fun k _ e => (Option.some.inj e).symm)).grown hg4'.out (fun k _ e => (Option.some.inj e).symm)).drewN _⟩
end
end Go.Proofs.Ythpkbeooplpinaa
