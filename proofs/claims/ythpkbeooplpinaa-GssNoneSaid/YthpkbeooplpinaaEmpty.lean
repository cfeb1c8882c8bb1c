/-
  Sequences that hand out nothing.
-/
import Derived.Test.YthpkbeooplpinaaGssAwake
import Derived.RangeFuncNested
import Derived.RangeFuncBound
import Derived.RangeFuncCalls
import Derived.RangeFuncLeaves
import Derived.Shelf.Abstract
import Derived.Shelf.RegionOpen
import Derived.OwnWalkIn
import Derived.TacticsInMore
import Derived.LoopNIn
import Derived.LoopIn
namespace Go.Proofs.Ythpkbeooplpinaa
open Go.RowKit Go.Shelf
set_option linter.unusedVariables false
set_option linter.unusedSimpArgs false
attribute [local go_sem] Oper.semAt_some
theorem range_none {g : Operand} {ps : Array Tmp} {assign body : Code} {Q : Exit → Act → World → Prop} {T : Array Value} {ds : List Deferred} {W0 : World} {gf : Nat} {lb : Array Value}
    (hg : (Act.mk T ds).eval g = .func (.func gf) #[] lb) (eg : ∀ args w, (callFunc gf args).run Try.prog w = .ok (.enter gf args) w)
    (hseq : SeqStopsK Fence.wide (10 - 1) Try.prog gf lb (fun x : Empty => x.elim) (fun _ _ => True) (fun _ => True) (fun _ => False) 0 W0)
    (hdone : ∀ (D : Nat) (W : World), W0.heap.size ≤ D → Below W0.heap.size W0 W → W.heap[D]? = some (.deferred (some [])) → Q .normal { tmps := T, defers := { target := .collected D, args := #[] } :: ds } W) :
    (Code.rangeFunc g ps assign body).wp Try.prog Q { tmps := T, defers := ds } W0 := by
  refine (wpIn_wide (n := 10)).1 ?_
  refine wpIn_rangeFunc_ownH rfl (by decide) (gf := gf) (lb := lb) hg trivial eg hseq (fun _ _ => trivial) (fun _ _ _ _ _ _ _ _ => trivial) (Below.refl _ _) (fun x => x.elim)
    (fun _ W => Below W0.heap.size W0 W) (fun _ _ _ => False) ?own (fun _ _ _ _ _ h => h.elim) (Below.refl _ _) (fun _ _ _ => True) (fun x => x.elim) (fun _ _ x => x.elim) (fun _ _ x => x.elim) ?done (fun _ _ _ _ _ h => h.elim)
  case own =>
    intro s A B row h hg hr
    exact h.trans ((Below.refl _ A).grown hg h.size fun q e => (hr q e).1)
  case done =>
    intro D xs W hD _ hI hK
    exact hdone D W hD hI hK
section
set_option maxHeartbeats 2000000
set_option maxRecDepth 100000
theorem none_nil_in (n : Nat) (w : World) : CallsIn Fence.wide n Try.prog 25 #[.pointer none] w fun e w' => e = .returned (.bool true) ∧ w' = w :=
  callsIn_wide.2 ((none_nil w).mono fun _ _ ⟨he, hw⟩ => ⟨he, hw.symm⟩)
theorem edges_nil (n : Nat) (hn : 2 ≤ n) (bs : Nat) (w0 : World) (hbs : Bk w0 bs 24 #[.pointer none]) :
    SeqStopsK Fence.wide n Try.prog 36 #[.pointer (some ⟨bs, 0, none⟩)] (fun x : Empty => x.elim) (fun _ _ => True) (fun _ => True) (fun _ => False) 0 w0 := fun l J Jx W hW hJ hJx hY h0 => by
  have d := (hbs.below hW hbs.lt)
  have dc : W.cell? ⟨bs, 0, none⟩ = some (.pointer none) := d.cell 0
  clear hY hbs hJ hJx hW d
  refine callsIn_of_wp Try.func36 rfl trivial ?_ rfl
  simp only [Try.ntmps36, List.size_toArray, List.length_cons, List.length_nil, Nat.reduceAdd, Nat.reduceSub, Array.replicate_succ, Array.replicate_zero, List.push_toArray, List.append_toArray, List.nil_append, List.cons_append]
  have hn1 : 1 ≤ n := by omega
  have NN := none_nil_in (n - 1) W
  gi_wp2_with (refine ⟨trivial, ?_⟩; refine NN.mono ?_; rintro e w' ⟨rfl, rfl⟩)
  refine bodyPost_ret (results_none rfl _ _ _) rfl ?_
  exact ⟨⟨_, rfl⟩, .inl ⟨_, trivial, h0⟩⟩
theorem all1_nil (n : Nat) (hn : 2 ≤ n) (bl : Nat) (w0 : World) (hbs : Bk w0 bl 91 #[.slice none 0 0]) :
    SeqStopsK Fence.wide n Try.prog 35 #[.pointer (some ⟨bl, 0, none⟩)] (fun x : Empty => x.elim) (fun _ _ => True) (fun _ => True) (fun _ => False) 0 w0 := fun l J Jx W hW hJ hJx hY h0 => by
  have d := (hbs.below hW hbs.lt)
  have dc : W.cell? ⟨bl, 0, none⟩ = some (.slice none 0 0) := d.cell 0
  clear hY hbs hJ hJx hW d
  refine callsIn_of_wp Try.func35 rfl trivial ?_ rfl
  simp only [Try.ntmps35, List.size_toArray, List.length_cons, List.length_nil, Nat.reduceAdd, Nat.reduceSub, Array.replicate_succ, Array.replicate_zero, List.push_toArray, List.append_toArray, List.nil_append, List.cons_append]
  gi_wp2
  gi_loopw [7] (fun v wr => v = .int .i64 0 ∧ J [] wr) (fun v _ => 0)
  case atStart => exact ⟨rfl, h0⟩
  case round =>
    clear h0
    obtain ⟨rfl, hJ⟩ := hrel
    gi_wp2
    go_end0
    exact ⟨⟨_, rfl⟩, .inl ⟨_, trivial, hJ⟩⟩
theorem edges_of (ao : Option Addr) (w : World) : Calls Try.prog 34 #[.pointer ao] w fun e w' =>
    e = .returned (.func (.func 36) #[] #[.pointer (some ⟨w.heap.size, 0, none⟩)]) ∧ w' = w.alloc (.cells #[.pointer ao] 24) := by
  go_enter Try.func34, Try.ntmps34
  go_wp2_with fail
  go_ret
  exact ⟨rfl, rfl⟩
theorem all_nil (w : World) : Calls Try.prog 21 #[.pointer none] w fun e w' => ∃ bl, e = .returned (.func (.func 35) #[] #[.pointer (some ⟨bl, 0, none⟩)]) ∧ Bk w' bl 91 #[.slice none 0 0] ∧ Below w.heap.size w w' := by
  refine (callsIn_wide (n := 10)).1 (callsIn_of_wp_marks Try.func21 rfl trivial (wpIn_wide.2 ?_) rfl)
  simp only [Try.ntmps21, List.size_toArray, List.length_cons, List.length_nil, Nat.reduceAdd, Nat.reduceSub, Array.replicate_succ, Array.replicate_zero, List.push_toArray, List.append_toArray, List.nil_append, List.cons_append]
  go_wp2_with fail
  refine (edges_of _ _).mono ?_
  rintro e w1 ⟨rfl, rfl⟩
  go_wp2_with fail
  refine range_none rfl (enters_of Try.func36 (by kernel_rfl) rfl) (edges_nil _ (by decide) (w.heap.size + 1) _ (Bk.new (by simp))) ?_
  intro D W hD hW hK
  have hl : Bk W w.heap.size 91 #[.slice none 0 0] := Bk.below (((Bk.new rfl).alloc _)) hW (by simp; omega)
  have hb : Below w.heap.size w W := (((Below.refl _ w).alloc (Nat.le_refl _) _).alloc (by simp) _).trans (hW.mono (by simp; omega))
  have hDl : w.heap.size < D := by simp at hD; omega
  have HK := Lib.hid hK
  have HL := Lib.hid hl
  have HB := Lib.hid hb
  clear hK hl hb hW hD
  go_wp2_with fail
  refine ⟨by simp, .inl ⟨D, _, rfl, run_takeDeferred HK.out, ?_⟩⟩
  refine ⟨.func (.func 35) #[] #[.pointer (some ⟨w.heap.size, 0, none⟩)], ?_, ?_⟩
  · simp [results, Try.f21, go_sem]
  · exact ⟨_, rfl, HL.out.grown (grownBy_putObj' W D (.deferred none)) (fun e => by cases e; omega), HB.out.trans ((Below.refl _ W).grown (grownBy_putObj' W D (.deferred none)) HB.out.size (fun q e => by cases e; omega))⟩
end
end Go.Proofs.Ythpkbeooplpinaa
