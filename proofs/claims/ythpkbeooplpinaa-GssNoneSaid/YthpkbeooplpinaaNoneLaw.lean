/-
  GssNone walked.
-/
import Derived.Test.YthpkbeooplpinaaEmpty
namespace Go.Proofs.Ythpkbeooplpinaa
open Go.RowKit Go.Shelf
set_option linter.unusedVariables false
set_option linter.unusedSimpArgs false
theorem seqType : (match Try.prog.underlying 55 with | some (.func ..) => true | _ => false) = true := by kernel_rfl
theorem fn_nil (g : Fn) (a b : Array Value) (w : World) : (binOp .eql 55 (.func g a b) .nilFunc).run Try.prog w = .ok (.bool false) w := by
  cases hs : Try.prog.underlying 55 with
  | none => have := seqType; rw [hs] at this; cases this
  | some s =>
    have h := seqType
    rw [hs] at h
    cases s <;> simp at h
    have e : ∀ d, (Op.equalIn (d + 1) 55 (.func g a b) .nilFunc).run Try.prog w = .ok false w := fun d => by simp [Op.equalIn, run_underlying hs]
    simp [binOp, Op.equal]
    rw [show Op.maxDepth = 9999 + 1 from rfl, e]
    rfl
section
set_option maxHeartbeats 4000000
set_option maxRecDepth 100000
theorem none_law (x y z : Int) (w : World) : Calls Try.prog 4 #[.int .i64 x, .int .i64 y, .int .i64 z] w fun e w' => e = .returned (.bool true) ∧ Below w.heap.size w w' := by
  refine (callsIn_wide (n := 10)).1 (callsIn_of_wp_marks Try.func4 rfl trivial (wpIn_wide.2 ?_) rfl)
  simp only [Try.ntmps4, List.size_toArray, List.length_cons, List.length_nil, Nat.reduceAdd, Nat.reduceSub, Array.replicate_succ, Array.replicate_zero, List.push_toArray, List.append_toArray, List.nil_append, List.cons_append]
  go_wp2_with fail
  refine (node_nil _ _ _).mono ?_
  rintro e w1 ⟨rfl, hf1⟩
  have hr1 : Bk w1 w.heap.size 4 #[.bool false] := (Bk.new rfl).far' hf1 id
  have hw1 : Far (fun _ => False) w w1 := ((Far.refl _ w).alloc _).trans hf1 fun _ _ h => h
  clear hf1
  go_wp2_with fail
  refine (push_nil _ _ _ _).mono ?_
  rintro e w2 ⟨rfl, hf2⟩
  have hr2 := hr1.far' hf2 id
  have hw2 := hw1.trans hf2 fun _ _ h => h
  clear hf2 hr1 hw1
  go_wp2_with fail
  refine (pop_nil _ _ _).mono ?_
  rintro e w3 ⟨rfl, hf3⟩
  have hr3 := hr2.far' hf3 id
  have hw3 := hw2.trans hf3 fun _ _ h => h
  clear hf3 hr2 hw2
  go_wp2_with fail
  refine (at_nil _ _).mono ?_
  rintro e w4 ⟨rfl, hf4⟩
  have hr4 := hr3.far' hf4 id
  have hw4 := hw3.trans hf4 fun _ _ h => h
  clear hf4 hr3 hw3
  go_wp2_with fail
  refine (frames_nil _ _).mono ?_
  rintro e w5 ⟨rfl, hf5⟩
  have hr5 := hr4.far' hf5 id
  have hw5 := hw4.trans hf5 fun _ _ h => h
  clear hf5 hr4 hw4
  go_wp2_with fail
  refine (pops_nil _ _).mono ?_
  rintro e w6 ⟨rfl, hf6⟩
  have hr6 := hr5.far' hf6 id
  have hw6 := hw5.trans hf6 fun _ _ h => h
  clear hf6 hr5 hw5
  go_wp2_with fail
  refine (all_nil _).mono ?_
  rintro e w7 ⟨bl, rfl, hl7, hf7⟩
  have hr7 := hr6.below hf7 hr6.lt
  have hw7 : Below w.heap.size w w7 := (hw6.below (Nat.le_refl _) (fun _ _ h => h)).trans (hf7.mono hw6.size)
  have hr7' := Lib.hid hr7
  have hw7' := Lib.hid hw7
  have hl7' := Lib.hid hl7
  clear hf7 hr6 hw6 hr7 hw7 hl7
  have FN := fn_nil
  go_wp2_with fail
  refine range_none rfl (enters_of Try.func35 (by kernel_rfl) rfl) (all1_nil _ (by decide) bl _ hl7'.out) ?_
  intro D W hD hW hK
  have hr8 := hr7'.out.below hW hr7'.out.lt
  have hw8 : Below w.heap.size w W := hw7'.out.trans (hW.mono hw7'.out.size)
  have hrl := hr7'.out.lt
  have hws := hw7'.out.size
  have AW := awake_any W
  have LN := len_nil W
  have HK := Lib.hid hK
  have HR := Lib.hid hr8
  have HW := Lib.hid hw8
  clear hK hr8 hw8 hW
  have hDl : w.heap.size < D := by omega
  clear hrl hws hD
  go_wp2_with (first | ((with_reducible refine LN.mono ?_); rintro e w' ⟨rfl, rfl⟩) | ((with_reducible refine AW.mono ?_); rintro e w' ⟨rfl, hfw⟩; have hr9 := Bk.far' HR.out hfw id; have rc := hr9.cell 0; have rf := hr9.free 0; have HR9 := Lib.hid hr9; have hfw' := Lib.hid hfw; clear hr9 hfw))
  have hDW : D < W.heap.size := (Array.getElem?_eq_some_iff.1 HK.out).1
  have hK9 : (w'.setCell ⟨w.heap.size, 0, none⟩ (.bool true)).heap[D]? = some (.deferred (some [])) := (heap_setCell_other w' ⟨w.heap.size, 0, none⟩ D (.bool true) (fun e => by rw [e] at hDl; exact Nat.lt_irrefl _ hDl)).trans ((hfw'.out.block D hDW id).trans HK.out)
  refine ⟨by simp, .inl ⟨D, _, rfl, run_takeDeferred hK9, ?_⟩⟩
  have hrr : Bk ((w'.setCell ⟨w.heap.size, 0, none⟩ (.bool true)).putObj D (.deferred none)) w.heap.size 4 #[.bool true] := (HR9.out.set 0 (.bool true)).grown (grownBy_putObj' _ D (.deferred none)) (fun e => by cases e; exact Nat.lt_irrefl _ hDl)
  have hrc := hrr.cell 0
  have hb9 : Below w.heap.size w w' := HW.out.trans ((hfw'.out.below (Nat.le_refl _) (fun _ _ h => h)).mono HW.out.size)
  refine ⟨.bool true, ?_, rfl, (hb9.setCell (p := ⟨w.heap.size, 0, none⟩) (Nat.le_refl _) _).trans ((Below.refl _ _).grown (grownBy_putObj' _ D (.deferred none)) (by have := hb9.size; simp; omega) (fun q e => by cases e; omega))⟩
  simp [results, Try.f4, go_sem, hrc]
end
end Go.Proofs.Ythpkbeooplpinaa
