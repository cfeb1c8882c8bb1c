/-
  soFar: copies of own lists; copy at elements of any width.
-/
import Derived.Test.YthpkbeooplpinaaCheck
import Derived.OwnWalk
import Derived.Laws.CopyRow
import Derived.Laws.OwnMore
namespace Go.Proofs.Ythpkbeooplpinaa
open Go.RowKit
set_option linter.unusedVariables false
set_option linter.unusedSimpArgs false
theorem run_copy_wide {P : Program} (w : World) (dT sT ty elem : TypeId) (i : TypeInfo) (size : Nat) (g n dCap : Nat) (a : Addr) (sCap : Nat) (cur : Array Value) (t : TypeId) (cs : List Value)
    (hu : P.underlying dT = some (.slice elem)) (hi : P.info? elem = some i) (hs : i.size = size)
    (hg : w.heap[g]? = some (.cells cur t (0, 0))) (hn : cs.length = n * size)
    (hsrc : ∀ j v, cs[j]? = some v → w.cell? (a.add j) = some v) (hfit : cs.length = cur.size) (h1 : ∀ v ∈ cs, v.oneCell' = true) :
    (Builtin.copy_ #[dT, sT] ty #[.slice (some ⟨g, 0, none⟩) n dCap, .slice (some a) n sCap]).run P w = .ok (.int .i64 n) (w.setRow g cs.toArray) := by
  subst hs
  have hl := run_firstCells_some (P := P) (w := w) i.size n a n sCap cs hn hsrc
  have hst := run_storeCells_at P g 0 t cs 0 cur w hg (by simp; omega) h1
  have hd : cur.toList.drop (0 + 0 + cs.length) = [] := List.drop_eq_nil_of_le (by simp; omega)
  rw [hd] at hst
  simp at hst
  simp [Builtin.copy_, run_underlying hu, Builtin.lenOf, sizeOf, typeInfo, hi, hl, hst, goInt]
theorem run_copy_empty {P : Program} (w : World) (dT sT ty elem : TypeId) (i : TypeInfo) (d : Addr) (hu : P.underlying dT = some (.slice elem)) (hi : P.info? elem = some i) :
    (Builtin.copy_ #[dT, sT] ty #[.slice (some d) 0 0, .slice none 0 0]).run P w = .ok (.int .i64 0) w := by
  simp [Builtin.copy_, run_underlying hu, Builtin.lenOf, Builtin.firstCells, sizeOf, typeInfo, hi, storeCells, goInt]
theorem setRow_grown (w : World) (g : Nat) (cs : Array Value) : w.grownBy (w.setRow g cs) (some g) :=
  ⟨rfl, rfl, rfl, by simp [World.setRow], fun k hk hne => setRow_other w g k cs (fun e => hne (by rw [e]))⟩
theorem copied {P : Program} (w : World) (dT sT ty : TypeId) (elem : TypeId) (i : TypeInfo) (size : Nat) (hu : P.underlying dT = some (.slice elem)) (hi : P.info? elem = some i) (hsz : i.size = size)
    (base n g cap : Nat) (v : Value) (xs ys : List Value) (hl : xs.length = n * size)
    (hv : (v = .slice none 0 0 ∧ n = 0) ∨ ∃ b, v = .slice (some ⟨b, 0, none⟩) n cap ∧ ∀ j u, xs[j]? = some u → w.cell? ((⟨b, 0, none⟩ : Addr).add j) = some u)
    (hown : w.ownsRow base elem size (.slice (some ⟨g, 0, none⟩) n n) n ys) (h1 : ∀ u ∈ xs, u.oneCell' = true) :
    ∃ w', (Builtin.copy_ #[dT, sT] ty #[.slice (some ⟨g, 0, none⟩) n n, v]).run P w = .ok (.int .i64 n) w' ∧ w'.ownsRow base elem size (.slice (some ⟨g, 0, none⟩) n n) n xs ∧ w.grownBy w' (some g) := by
  rcases hown.2 with ⟨e, _⟩ | ⟨g', cap', cur, e, hbg, hg, hnc, hcm, hcs, htake⟩
  · cases e
  · cases e
    rcases hv with ⟨rfl, rfl⟩ | ⟨b, rfl, hc⟩
    · have hxs : xs = [] := List.eq_nil_of_length_eq_zero (by simpa using hl)
      have hys : ys = [] := List.eq_nil_of_length_eq_zero (by simpa using hown.1)
      subst hxs
      rw [hys] at hown
      exact ⟨w, run_copy_empty (P := P) w dT sT ty elem i ⟨g, 0, none⟩ hu hi, hown, World.grownBy.refl _ _⟩
    · exact ⟨_, run_copy_wide (P := P) w dT sT ty elem i size g n n ⟨b, 0, none⟩ cap cur elem xs hu hi hsz hg hl hc (by rw [hl, hcs]) h1,
        ⟨hl, .inr ⟨g, n, xs.toArray, rfl, hbg, setRow_heap w g cur _ elem _ hg, Nat.le_refl _, hcm, by simp [hl], List.take_of_length_le (by simp [hl])⟩⟩, setRow_grown _ _ _⟩
theorem info_int : (Try.prog.info? 3).map (fun i => (i.zero, i.size, i.bytes)) = some (some (.int .i64 0), 1, 8) := by kernel_rfl
theorem info_frame : (Try.prog.info? 38).map (fun i => (i.zero, i.size, i.bytes)) = some (some (.agg #[.int .i64 0, .int .i64 0]), 2, 16) := by kernel_rfl
theorem info_node : (Try.prog.info? 81).map (fun i => (i.zero, i.size, i.bytes)) = some (some (.agg #[.int .i64 0, .int .i64 0, .slice none 0 0, .slice none 0 0]), 4, 64) := by kernel_rfl
section
set_option maxHeartbeats 400000
set_option maxRecDepth 100000
theorem row_shape {w : World} {base : Nat} {e : TypeId} {size : Nat} {v : Value} {n : Nat} {xs : List Value} (h : w.ownsRow base e size v n xs) :
    (v = .slice none 0 0 ∧ n = 0) ∨ ∃ b cap, v = .slice (some ⟨b, 0, none⟩) n cap ∧ n ≤ cap ∧ cap ≤ maxLen ∧ b < w.heap.size := by
  rcases h.2 with h' | ⟨b, cap, cur, e, _, hb, hn, hc, _⟩
  · exact .inl h'
  · exact .inr ⟨b, cap, e, hn, hc, (Array.getElem?_eq_some_iff.1 hb).1⟩
theorem sofar_int (w : World) (base n : Nat) (v : Value) (xs : List Value) (hn : n < 1000000) (hv : w.ownsRow base 3 1 v n xs) (h1 : ∀ u ∈ xs, u.oneCell' = true) :
    Calls Try.prog 32 #[v] w fun e w' => e = .returned (.slice (some ⟨w.heap.size, 0, none⟩) n n) ∧ w'.ownsRow w.heap.size 3 1 (.slice (some ⟨w.heap.size, 0, none⟩) n n) n xs ∧ w.grownBy w' none := by
  obtain ⟨i, hi, hz0, hz1, hz2⟩ := info_parts info_int
  have H := Lib.hid hv
  rcases row_shape hv with ⟨rfl, rfl⟩ | ⟨b, cap, rfl, hnc, hcm, hb⟩ <;> clear hv
  · go_enter Try.func32, Try.ntmps32
    go_wp2_with (first | (at_make; refine wpList_make_full _ rfl _ _ 33 rfl w.heap.size 3 i _ 1 Try.underlying33 hi hz0 hz1 .i64 .i64 0 0 0 rfl rfl rfl rfl (by omega) (by unfold maxLen; omega) (Nat.le_refl _) ?_) | fail)
    intro w1 hown hgrow
    have hs1 := hgrow.size
    obtain ⟨w2, hrun, hown2, hgrow2⟩ := copied w1 33 33 3 3 i 1 Try.underlying33 hi hz1 w.heap.size 0 w.heap.size 0 _ xs _ H.out.1 (.inl ⟨rfl, rfl⟩) hown h1
    go_wp2_with fail
    go_wp2_with fail
    go_ret
    exact ⟨rfl, hown2, ⟨hgrow2.os.trans hgrow.os, hgrow2.tape.trans hgrow.tape, hgrow2.output.trans hgrow.output, Nat.le_trans hs1 hgrow2.size, fun k hk hne => (hgrow2.block k (by omega) (by simp; omega)).trans (hgrow.block k hk hne)⟩⟩
  · go_enter Try.func32, Try.ntmps32
    go_wp2_with (first | (at_make; refine wpList_make_full _ rfl _ _ 33 rfl w.heap.size 3 i _ 1 Try.underlying33 hi hz0 hz1 .i64 .i64 n n n rfl rfl rfl rfl (by rw [hz2]; omega) (by unfold maxLen; omega) (Nat.le_refl _) ?_) | fail)
    intro w1 hown hgrow
    have hs1 := hgrow.size
    obtain ⟨w2, hrun, hown2, hgrow2⟩ := copied w1 33 33 3 3 i 1 Try.underlying33 hi hz1 w.heap.size n w.heap.size n _ xs _ H.out.1 (.inr ⟨b, rfl, (H.out.kept hgrow (.inr (by simp [Value.ownBlock]))).cells rfl⟩) hown h1
    go_wp2_with fail
    go_wp2_with fail
    go_ret
    exact ⟨rfl, hown2, ⟨hgrow2.os.trans hgrow.os, hgrow2.tape.trans hgrow.tape, hgrow2.output.trans hgrow.output, Nat.le_trans hs1 hgrow2.size, fun k hk hne => (hgrow2.block k (by omega) (by simp; omega)).trans (hgrow.block k hk hne)⟩⟩
theorem sofar_frame (w : World) (base n : Nat) (v : Value) (xs : List Value) (hn : n < 1000000) (hv : w.ownsRow base 38 2 v n xs) (h1 : ∀ u ∈ xs, u.oneCell' = true) :
    Calls Try.prog 33 #[v] w fun e w' => e = .returned (.slice (some ⟨w.heap.size, 0, none⟩) n n) ∧ w'.ownsRow w.heap.size 38 2 (.slice (some ⟨w.heap.size, 0, none⟩) n n) n xs ∧ w.grownBy w' none := by
  obtain ⟨i, hi, hz0, hz1, hz2⟩ := info_parts info_frame
  have H := Lib.hid hv
  rcases row_shape hv with ⟨rfl, rfl⟩ | ⟨b, cap, rfl, hnc, hcm, hb⟩ <;> clear hv
  · go_enter Try.func33, Try.ntmps33
    go_wp2_with (first | (at_make; refine wpList_make_full _ rfl _ _ 32 rfl w.heap.size 38 i _ 2 Try.underlying32 hi hz0 hz1 .i64 .i64 0 0 0 rfl rfl rfl rfl (by omega) (by unfold maxLen; omega) (Nat.le_refl _) ?_) | fail)
    intro w1 hown hgrow
    have hs1 := hgrow.size
    obtain ⟨w2, hrun, hown2, hgrow2⟩ := copied w1 32 32 3 38 i 2 Try.underlying32 hi hz1 w.heap.size 0 w.heap.size 0 _ xs _ H.out.1 (.inl ⟨rfl, rfl⟩) hown h1
    go_wp2_with fail
    go_wp2_with fail
    go_ret
    exact ⟨rfl, hown2, ⟨hgrow2.os.trans hgrow.os, hgrow2.tape.trans hgrow.tape, hgrow2.output.trans hgrow.output, Nat.le_trans hs1 hgrow2.size, fun k hk hne => (hgrow2.block k (by omega) (by simp; omega)).trans (hgrow.block k hk hne)⟩⟩
  · go_enter Try.func33, Try.ntmps33
    go_wp2_with (first | (at_make; refine wpList_make_full _ rfl _ _ 32 rfl w.heap.size 38 i _ 2 Try.underlying32 hi hz0 hz1 .i64 .i64 n n n rfl rfl rfl rfl (by rw [hz2]; omega) (by unfold maxLen; omega) (Nat.le_refl _) ?_) | fail)
    intro w1 hown hgrow
    have hs1 := hgrow.size
    obtain ⟨w2, hrun, hown2, hgrow2⟩ := copied w1 32 32 3 38 i 2 Try.underlying32 hi hz1 w.heap.size n w.heap.size n _ xs _ H.out.1 (.inr ⟨b, rfl, (H.out.kept hgrow (.inr (by simp [Value.ownBlock]))).cells rfl⟩) hown h1
    go_wp2_with fail
    go_wp2_with fail
    go_ret
    exact ⟨rfl, hown2, ⟨hgrow2.os.trans hgrow.os, hgrow2.tape.trans hgrow.tape, hgrow2.output.trans hgrow.output, Nat.le_trans hs1 hgrow2.size, fun k hk hne => (hgrow2.block k (by omega) (by simp; omega)).trans (hgrow.block k hk hne)⟩⟩
end
end Go.Proofs.Ythpkbeooplpinaa
