/-
  Node: the number of a node that is there; a node more.
-/
import Derived.Test.YthpkbeooplpinaaFar
import Derived.StillTailTactics
namespace Go.Proofs.Ythpkbeooplpinaa
open Go.RowKit
open Go.Maps (Keyed)
set_option linter.unusedVariables false
set_option linter.unusedSimpArgs false
section
set_option maxHeartbeats 1000000
set_option maxRecDepth 100000
theorem node_old (w : World) (a b x : Int) (B m1 m2 m3 K : Nat) (sl : Value) (c1 : Value → Option Int) (ha : Fit a) (hb : Fit b)
    (hB : Bk w B 77 #[sl, .map (some m1), .map (some m2), .map (some m3)]) (hT : Tally w 79 m1 K c1) (hc : c1 (sp a b) = some x) :
    Calls Try.prog 9 #[.pointer (some ⟨B, 0, none⟩), .int .i64 a, .int .i64 b] w fun e w' => e = .returned (.tuple #[.int .i64 x, .bool false]) ∧ Far (fun _ => False) w w' := by
  have p1 : w.cell? ⟨B, 1, none⟩ = some (.map (some m1)) := hB.cell 1
  have hlt := hB.lt
  obtain ⟨l, hl⟩ := key_spot ha hb
  have LK : ∀ n : Nat, (Instr.lookup 72 (.map (some m1)) (.agg #[.int .i64 a, .int .i64 b]) true).run Try.prog ((w.alloc (.cells #[.int .i64 a, .int .i64 b] 79)).drewN n) = .ok (.tuple #[.int .i64 x, .bool true]) ((w.alloc (.cells #[.int .i64 a, .int .i64 b] 79)).drewN n) := fun n => by
    have := ((hT.alloc (.cells #[.int .i64 a, .int .i64 b] 79)).drewN n).look_ok (Keyed.of_law law_spot) Try.underlying72 hl
    rw [hc] at this
    exact this
  clear hT hc hl hB
  go_enter Try.func9, Try.ntmps9
  go_wp2_with fail
  refine (none_no w B m1 p1).mono ?_
  rintro e w' ⟨rfl, rfl⟩
  go_wp2_with fail
  go_quiet (fail)
  go_wp2_with fail
  go_ret2
  exact ⟨rfl, ((Far.refl _ w).alloc _).drewN _⟩
theorem set_grown (w : World) (p : Addr) (u : Value) : w.grownBy (w.setCell p u) (some p.block) := ⟨rfl, rfl, rfl, by simp [World.setCell], fun k _ hne => RowKit.Below.heap_setCell _ _ _ _ (fun e => hne (by rw [e]))⟩
theorem node_end {w W2 w3 : World} {B m1 m2 m3 K n g cap cap' : Nat} {ao : Option Addr} {ys : List Value} {c : Value → Option Int} {o : Obj}
    (hB2 : Bk W2 B 77 #[.slice ao n cap, .map (some m1), .map (some m2), .map (some m3)]) (hT2 : Tally W2 79 m1 (K + 1) c)
    (hsm : (Value.slice ao n cap).ownBlock ≠ some m1) (hsB : (Value.slice ao n cap).ownBlock ≠ some B) (hBm : B ≠ m1) (hF : Far (fun k => k = m1) w W2)
    (hB3 : Bk w3 B 77 #[.slice ao n cap, .map (some m1), .map (some m2), .map (some m3)]) (hg3 : (W2.alloc o).drew.grownBy w3 (Value.slice ao n cap).ownBlock)
    (ho3 : w3.ownsRow 0 81 4 (.slice (some ⟨g, 0, none⟩) (n + 1) cap') (n + 1) ys)
    (hat : (Value.slice ao n cap).ownBlock = some g ∨ g = (W2.alloc o).drew.heap.size) (hBl : B < W2.heap.size) :
    (Ending.returned (.tuple #[.int .i64 (n : Int), .bool true]) = Ending.returned (.tuple #[.int .i64 (n : Int), .bool true])) ∧
      ∃ sl', Bk (w3.setCell ⟨B, 0, none⟩ (.slice (some ⟨g, 0, none⟩) (n + 1) cap')) B 77 #[sl', .map (some m1), .map (some m2), .map (some m3)] ∧ Tally (w3.setCell ⟨B, 0, none⟩ (.slice (some ⟨g, 0, none⟩) (n + 1) cap')) 79 m1 (K + 1) c ∧
        (w3.setCell ⟨B, 0, none⟩ (.slice (some ⟨g, 0, none⟩) (n + 1) cap')).ownsRow 0 81 4 sl' (n + 1) ys ∧ (sl'.ownBlock = (Value.slice ao n cap).ownBlock ∨ ∃ g, sl'.ownBlock = some g ∧ w.heap.size ≤ g) ∧
        Far (fun k => k = B ∨ k = m1 ∨ (Value.slice ao n cap).ownBlock = some k) w (w3.setCell ⟨B, 0, none⟩ (.slice (some ⟨g, 0, none⟩) (n + 1) cap')) := by
  have hH : (W2.alloc o).drew.heap.size = W2.heap.size + 1 := by
    show (W2.alloc o).heap.size = _
    simp
  have hgB : g ≠ B := by
    rcases hat with h | h
    · intro e; rw [e] at h; exact hsB h
    · omega
  refine ⟨rfl, .slice (some ⟨g, 0, none⟩) (n + 1) cap', hB3.set 0 _, ?_, ?_, ?_, ?_⟩
  · exact ((Tally.kept (w := (W2.alloc o).drew) (hT2.alloc o) hg3 (fun e => hsm e.symm))).set (fun e => hBm e.symm) _
  · exact ho3.kept (set_grown _ _ _) (.inr (by simp [Value.ownBlock]; exact hgB))
  · rcases hat with h | h
    · exact .inl (by rw [h]; rfl)
    · exact .inr ⟨g, rfl, by have := hF.size; omega⟩
  · exact (((hF.mono (G := fun k => k = B ∨ k = m1 ∨ (Value.slice ao n cap).ownBlock = some k) (fun k _ e => .inr (.inl e))).alloc o).drew.grown hg3 (fun k _ e => .inr (.inr e))).set _ _ (fun _ => .inl rfl)
theorem node_new (w : World) (a b : Int) (B m1 m2 m3 K n : Nat) (sl : Value) (xs : List Value) (c1 : Value → Option Int) (ha : Fit a) (hb : Fit b) (hn : n < 1000000) (hK : K < 1000000)
    (hB : Bk w B 77 #[sl, .map (some m1), .map (some m2), .map (some m3)]) (hT : Tally w 79 m1 K c1) (hc : c1 (sp a b) = none) (hS : w.ownsRow 0 81 4 sl n xs) :
    Calls Try.prog 9 #[.pointer (some ⟨B, 0, none⟩), .int .i64 a, .int .i64 b] w fun e w' => e = .returned (.tuple #[.int .i64 n, .bool true]) ∧
      ∃ sl', Bk w' B 77 #[sl', .map (some m1), .map (some m2), .map (some m3)] ∧ Tally w' 79 m1 (K + 1) (putAt c1 (sp a b) n) ∧
        w'.ownsRow 0 81 4 sl' (n + 1) (xs ++ [.int .i64 a, .int .i64 b, .slice none 0 0, .slice none 0 0]) ∧ (sl'.ownBlock = sl.ownBlock ∨ ∃ g, sl'.ownBlock = some g ∧ w.heap.size ≤ g) ∧
        Far (fun k => k = B ∨ k = m1 ∨ sl.ownBlock = some k) w w' := by
  have p1 : w.cell? ⟨B, 1, none⟩ = some (.map (some m1)) := hB.cell 1
  have p0 : w.cell? ⟨B, 0, none⟩ = some sl := hB.cell 0
  have hlt := hB.lt
  obtain ⟨l, hl⟩ := key_spot ha hb
  have LK : ∀ n : Nat, (Instr.lookup 72 (.map (some m1)) (.agg #[.int .i64 a, .int .i64 b]) true).run Try.prog ((w.alloc (.cells #[.int .i64 a, .int .i64 b] 79)).drewN n) = .ok (.tuple #[.int .i64 0, .bool false]) ((w.alloc (.cells #[.int .i64 a, .int .i64 b] 79)).drewN n) := fun n => by
    have := ((hT.alloc (.cells #[.int .i64 a, .int .i64 b] 79)).drewN n).look_ok (Keyed.of_law law_spot) Try.underlying72 hl
    rw [hc] at this
    exact this
  have hT' := Lib.hid hT
  have hc' := Lib.hid hc
  have hl' := Lib.hid hl
  have hB' := Lib.hid hB
  have hS' := Lib.hid hS
  have hlen : ∃ ao cap, sl = .slice ao n cap := by
    rcases row_shape hS with ⟨rfl, rfl⟩ | ⟨b, cap, rfl, _⟩
    · exact ⟨none, 0, rfl⟩
    · exact ⟨_, _, rfl⟩
  obtain ⟨ao, cap, rfl⟩ := hlen
  clear hT hc hl hB hS
  go_enter Try.func9, Try.ntmps9
  go_wp2_with fail
  refine (none_no w B m1 p1).mono ?_
  rintro e w' ⟨rfl, rfl⟩
  go_wp2_with fail
  go_quiet (fail)
  go_wp2_with fail
  obtain ⟨W, hW⟩ : ∃ W, W = (w.alloc (.cells #[.int .i64 a, .int .i64 b] 79)).drewN nq := ⟨_, rfl⟩
  have hf : Far (fun _ => False) w W := hW ▸ ((Far.refl _ w).alloc _).drewN _
  have hB1 : Bk W B 77 #[.slice ao n cap, .map (some m1), .map (some m2), .map (some m3)] := hW ▸ (hB'.out.alloc _)
  have hN1 : Bk W w.heap.size 79 #[.int .i64 a, .int .i64 b] := hW ▸ (Bk.new rfl)
  have hT1 : Tally W 79 m1 K c1 := hW ▸ (hT'.out.alloc _)
  have hS1 : W.ownsRow 0 81 4 (.slice ao n cap) n xs := hW ▸ (hS'.out.alloc _)
  rw [← hW]
  clear hW p0 p1 LK hB' hT' hS'
  have p0 : W.cell? ⟨B, 0, none⟩ = some (.slice ao n cap) := hB1.cell 0
  have p1 : W.cell? ⟨B, 1, none⟩ = some (.map (some m1)) := hB1.cell 1
  have s0 : W.cell? ⟨w.heap.size, 0, none⟩ = some (.int .i64 a) := hN1.cell 0
  have s1 : W.cell? ⟨w.heap.size, 1, none⟩ = some (.int .i64 b) := hN1.cell 1
  have hTH := Lib.hid hT1
  have hBH := Lib.hid hB1
  have hNH := Lib.hid hN1
  have hSH := Lib.hid hS1
  clear hT1 hB1 hN1 hS1
  go_still_tail 6, (by kernel_rfl)
  change wpList _ _ _ _ _ W.drew
  have hm1 := hTH.out.lt
  obtain ⟨W2, hput, hT2, hg2⟩ := (hTH.out.drew).put (Keyed.of_law law_spot) Try.underlying72 (by unfold maxLen; omega) hl'.out (x := n) (wf_fit (by unfold Fit; omega))
  have hBm : B ≠ m1 := fun e => hTH.out.notCells (by rw [← e]; exact hBH.out)
  have hNm : w.heap.size ≠ m1 := fun e => hTH.out.notCells (by rw [← e]; exact hNH.out)
  have hB2 : Bk W2 B 77 #[.slice ao n cap, .map (some m1), .map (some m2), .map (some m3)] := Bk.grown (w := W.drew) hBH.out hg2 (fun e => hBm (Option.some.inj e))
  have hN2 : Bk W2 w.heap.size 79 #[.int .i64 a, .int .i64 b] := Bk.grown (w := W.drew) hNH.out hg2 (fun e => hNm (Option.some.inj e))
  have hput' : (Instr.mapUpdate 72 (.map (some m1)) (.agg #[.int .i64 a, .int .i64 b]) (.int .i64 n)).run Try.prog W.drew = .ok () W2 := hput
  have hT2' := Lib.hid hT2
  have hB2' := Lib.hid hB2
  have hN2' := Lib.hid hN2
  have hg2' := Lib.hid hg2
  have q0 : W2.cell? ⟨B, 0, none⟩ = some (.slice ao n cap) := hB2.cell 0
  have q1 : W2.frozen? ⟨B, 0, none⟩ = false := hB2.free 0
  have r0 : W2.cell? ⟨w.heap.size, 0, none⟩ = some (.int .i64 a) := hN2.cell 0
  have r1 : W2.cell? ⟨w.heap.size, 1, none⟩ = some (.int .i64 b) := hN2.cell 1
  have hBl := hB2.lt
  have hNl := hN2.lt
  clear hT2 hB2 hN2 hput p0 p1 s0 s1
  clear hg2
  obtain ⟨W1, hW1⟩ : ∃ W1, W1 = W.drew := ⟨_, rfl⟩
  rw [← hW1] at hput' ⊢
  have hW1' := Lib.hid hW1
  clear hW1
  have hW2f : Far (fun k => k = m1) w W2 := (hf.mono (G := fun k => k = m1) (fun _ _ h => h.elim)).grown (w := W) (by rw [show W = W from rfl]; exact ⟨hg2'.out.os, hg2'.out.tape, hg2'.out.output, hg2'.out.size, hg2'.out.block⟩) (fun k _ e => (Option.some.inj e).symm)
  have hsm : (Value.slice ao n cap).ownBlock ≠ some m1 := fun e => by
    rcases hSH.out.2 with ⟨h, _⟩ | ⟨g, c, cur, h, _, hg, _⟩
    · rw [h] at e; cases e
    · rw [h] at e
      cases e
      exact hTH.out.notCells hg
  have hS2 : W2.ownsRow 0 81 4 (.slice ao n cap) n xs := World.ownsRow.kept (w := W.drew) hSH.out hg2'.out (.inr hsm)
  have hS2' := Lib.hid hS2
  have hsB : (Value.slice ao n cap).ownBlock ≠ some B := fun e => by
    rcases hS2.2 with ⟨h, _⟩ | ⟨g, c, cur, h, _, hg, _⟩
    · rw [h] at e; cases e
    · rw [h] at e
      have e' : g = B := Option.some.inj e
      rw [e', show W2.heap[B]? = _ from hB2'.out] at hg
      cases hg
  clear hS2
  obtain ⟨i, hi, hz0, hz1, hz2⟩ := info_parts info_node
  have A1 : (W2.alloc (.cells #[.int .i64 a, .int .i64 b, .slice none 0 0, .slice none 0 0] 81)).drew.ownsRow 0 81 4 (.slice ao n cap) n xs := hS2'.out.alloc _
  have A2 : ∀ j u, [Value.int .i64 a, .int .i64 b, .slice none 0 0, .slice none 0 0][j]? = some u → (W2.alloc (.cells #[.int .i64 a, .int .i64 b, .slice none 0 0, .slice none 0 0] 81)).drew.cell? ((⟨W2.heap.size, 0, none⟩ : Addr).add j) = some u :=
    World.news_of_block (w := (W2.alloc (.cells #[.int .i64 a, .int .i64 b, .slice none 0 0, .slice none 0 0] 81)).drew) (cs := #[.int .i64 a, .int .i64 b, .slice none 0 0, .slice none 0 0]) (t := 81) (fr := (0, 0)) (heap_alloc_new W2 _)
  have A3 : ∀ u ∈ [Value.int .i64 a, .int .i64 b, .slice none 0 0, .slice none 0 0], u.oneCell' = true := by simp [Value.oneCell']
  have A4 : n + 1 ≤ maxLen := by unfold maxLen; omega
  have A1' := Lib.hid A1
  have A2' := Lib.hid A2
  clear A1 A2
  go_wp2_with fail
  go_region_law (refine step_append_lies _ rfl (.tmp 43) (.tmp 46) 75 rfl 0 81 i _ 4 64 Try.underlying75 hi hz0 hz1 hz2 rfl (by decide) (.slice ao n cap) n xs rfl A1'.out ⟨W2.heap.size, 0, none⟩ 1 1 _ rfl rfl A2'.out A3 (by decide) A4 (by omega) (Nat.zero_le _) _ rfl ?_; intro g cap' w3 ho3 hg3 hat3 hl3; have hB3 := Bk.grown (w := (W2.alloc (.cells #[.int .i64 a, .int .i64 b, .slice none 0 0, .slice none 0 0] 81)).drew) (Bk.alloc hB2'.out _) hg3 (fun e => hsB e.symm); have u0 := hB3.cell 0; have u1 := hB3.free 0; have ho3' := Lib.hid ho3; have hg3' := Lib.hid hg3; have hB3' := Lib.hid hB3; have hat3' := Lib.hid hat3; clear ho3 hg3 hB3 hat3; simp at u0)
  all_goals (go_wp2_with fail)
  all_goals go_ret2
  all_goals exact node_end hB2'.out hT2'.out hsm hsB hBm hW2f hB3'.out hg3'.out ho3'.out hat3'.out hBl
end
end Go.Proofs.Ythpkbeooplpinaa
