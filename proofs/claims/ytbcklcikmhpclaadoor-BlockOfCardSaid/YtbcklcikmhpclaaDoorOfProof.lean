/-
  For every list of cells and every number the law BlockOf answers true and leaves its arguments as they were; the table that it reads is tied to the program's text.
-/
import Derived.Test.YtbcklcikmhpclaaDoorOfLaw
import Derived.SizedLaws
import Derived.Test.YtbcklcikmhpclaaDoorTabs
import Derived.Test.YtbcklcikmhpclaaDoorCards
import Derived.Test.YtbcklcikmhpclaaDoorTie
import Derived.SevenTiedAt
namespace Go.Proofs.YtbcklcikmhpclaaDoor
open Go.ChangeShapes Go.WideShapes Go.ChangeAt Go.RowKit
set_option linter.unusedVariables false

theorem cellBytes : Tryd.prog.bytesOf 31 = 16 := by kernel_rfl
theorem cells_small {H : Type} {enc : TypeId × Value → H} {w : World} {base : Nat} {r : Reach} {b0 : Nat} {v : Value} {d : DataW H} {ps : List MemPlace} {n : Nat} {R C : Nat → Int} (hv : Value.okWide Tryd.prog w r b0 22 v)
    (h : DataW.Trod enc Tryd.prog w base (fun _ => true) true 22 v d ps) (hz : ∀ el sp, d = .slice el sp → (el.length + sp.length) * 16 ≤ 140737488355328) (hc : IsCells w v n R C) : n * 16 ≤ 140737488355328 := by
  obtain ⟨a0, len0, cap0, rfl⟩ := okWide_slice cellType hv
  have hn : n = len0 := by
    rcases hc with ⟨rfl, a, cap, e⟩ | ⟨b, off, cap, e, _⟩ <;> injection e with e1 e2 e3 <;> omega
  obtain ⟨fuel, hf⟩ := h
  obtain ⟨f0, f1, hs, o0, o1, t0, t1⟩ := cellFields
  rcases Go.Deep.open_slice_pairs cellType hs foldCell o0 o1 (by rw [t0]; exact intCells) (by rw [t1]; exact intCells) hf with ⟨hc, _⟩ | ⟨a, len, cap, m, k, V0, V1, D0, D1, P0, P1, hc, hb, hl, hm, hmm, hx, hi⟩
  · simp only [Value.cells, List.cons.injEq, Value.slice.injEq, and_true] at hc
    omega
  · simp only [Value.cells, List.cons.injEq, Value.slice.injEq, and_true] at hc
    have hd := congrArg Prod.fst hx
    have := hz _ _ hd
    simp at this
    omega
set_option maxRecDepth 100000 in
theorem blockOf_lifted (os : Os) (started : os.Started) (H : Type) (enc : TypeId × Value → H) :
    ReturnsInHanded {} Tryd.checked os 3 .any (fun w args => (Rows.blockOfSpec.pre enc Tryd.prog Tryd.f3 [] false w args ∧ laidMetH Tryd.prog laidList w) ∧ sizedMet enc Tryd.prog Tryd.f3 (OpenSpec.ofChange Rows.blockOfSpec) false w args)
      (Rows.blockOfSpec.post enc Tryd.prog Tryd.f3 false true false false) := by
  refine returnsInHanded_of_change_and (C := Tryd.checked) (X := fun w _ => laidMetH Tryd.prog laidList w) (fun _ _ _ hh h => h.of_heap hh) Tryd.own started (by kernel_rfl) Tryd.func3
    (ChangeSpec.witness_shaped (enc := enc) (C := Tryd.checked) (os := os) (X := fun w _ => laidMetH Tryd.prog laidList w) false (World.doorLaid Tryd.prog 14 os) #[.slice none 0 0, .int .i64 0] 8 rfl (World.shaped_of_RefB (by kernel_rfl) (by kernel_rfl)) (by kernel_rfl) (by kernel_rfl) (by kernel_rfl) (door_met os _)) ?_
  intro W base args ds gs before hval0 hW _ hx2 hL _
  have hval : ∀ (j : Nat) t v, Tryd.f3.params[j]? = some t → args[j]? = some v → Value.okWide Tryd.prog W .any base t v := hval0
  have hW' := hW
  obtain ⟨p, q, hA0, hV, rfl, hfz, hnd⟩ := hW
  have hA : DataW.TrodAll enc Tryd.prog W 0 (fun _ => true) true Tryd.f3.params.toList args.toList ds p := hA0
  rw [Tryd.params3] at hA hval hx2
  obtain ⟨v0, v1, d0, d1, p0, p1, rfl, rfl, rfl, h0, h1⟩ := trodAll_two hA
  obtain ⟨n0, R0, C0, k0, c0⟩ := open_cells (hval 0 22 v0 rfl rfl) h0
  obtain ⟨early, rfl, rfl, rfl, we⟩ := open_int intType (hval 1 3 v1 rfl rfl) h1
  have hn16 : n0 * 16 ≤ 140737488355328 := cells_small (hval 0 22 v0 rfl rfl) h0 (fun el sp e => by
    subst e
    have : (el.length + sp.length) * Tryd.prog.bytesOf 31 ≤ reachBytes := sized_slice hx2 (j := 0) rfl rfl cellType
    rw [cellBytes] at this
    simp only [reachBytes] at this
    omega) c0
  refine (of_law v0 n0 R0 C0 early W (tab_of_laid hL) c0 hn16).mono fun e W' ⟨he, hw⟩ => ?_
  subst he
  exact ⟨_, rfl, law_post hW' rfl (by intro t ht; rw [Tryd.params3] at ht; simp at ht; rcases ht with rfl | rfl <;> exact ⟨by kernel_rfl, of_decide_eq_true (by kernel_rfl)⟩) (by kernel_rfl) rfl hw⟩
theorem blockOf_holds : Rows.BlockOfSaid :=
  OpenClaim.holds_of_wide 3 Tryd.f3 rfl rfl rfl rfl rfl rfl rfl ⟨rfl, rfl, rfl, rfl, rfl⟩ rfl rfl rfl rfl rfl (by kernel_rfl) Tryd.func3 (by kernel_rfl)
    (of_decide_eq_true (by kernel_rfl)) (by unfold Func.isWrapper; first | (rw [if_pos (by decide +kernel)]; kernel_rfl) | (rw [if_neg (by decide +kernel)]; exact ⟨rfl, rfl⟩))
    (fun os started H enc _ => blockOf_lifted os started H enc)
theorem blockOf_card : Rows.BlockOfCardSaid :=
  Claim7.holds_tied_plain_at .later [] [.data] true Rows.blockOfCard.stood.harness false
    blockOf_holds (fun _ h => by cases h) (by kernel_rfl) (fun _ h => by cases h) blockOf_row_tie rfl ⟨rfl, rfl⟩ (by kernel_rfl) rfl
    (fun f fn hf hfn => by
      obtain rfl : f = 3 := Option.some.inj ((show Tryd.prog.funcNamed "byway/bywaylaw01.BlockOf" = some 3 by kernel_rfl).symm.trans hf) |>.symm
      obtain rfl : fn = Tryd.f3 := (Option.some.inj (Tryd.func3.symm.trans hfn)).symm
      exact ⟨by kernel_rfl, fun j t ht => by
        rw [Tryd.params3] at ht
        have hm := Array.mem_of_getElem? ht
        have hall : (Tryd.f3.params.toList.all fun u => !Tryd.prog.wantsStandIn u) = true := by kernel_rfl
        rw [Tryd.params3] at hall
        exact (show Tryd.prog.wantsStandIn t = false by simpa using List.all_eq_true.1 hall t (by simpa using hm))⟩)
    (by kernel_rfl)
#print axioms blockOf_card
end Go.Proofs.YtbcklcikmhpclaaDoor
