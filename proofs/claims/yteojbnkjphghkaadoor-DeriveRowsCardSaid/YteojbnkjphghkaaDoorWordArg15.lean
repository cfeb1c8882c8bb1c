/-
  A word as an argument.
-/
import Derived.Test.YteojbnkjphghkaaDoorCnfArg
import Derived.Test.YteojbnkjphghkaaDoorMakes15
namespace Go.Proofs.YteojbnkjphghkaaDoor
open Go.ChangeMaps Go.ChangeShapes Go.WideShapes Go.ChangeAt Go.RowKit Go.Deep
set_option linter.unusedVariables false
set_option linter.unusedSimpArgs false
theorem intBytes : Tryd.prog.bytesOf 3 = 8 := by kernel_rfl
theorem within_rest {H : Type} {P : Program} {t : TypeId} {ts : List TypeId} {d : DataW H} {ds : List (DataW H)} (h : (DataW.weightsEach P (t :: ts) (d :: ds)).all (· ≤ reachBytes) = true) : (DataW.weightsEach P ts ds).all (· ≤ reachBytes) = true := by
  rw [List.all_eq_true] at h ⊢
  exact fun n hn => h n (by simp only [DataW.weightsEach, List.mem_append]; exact .inr hn)
section
variable {H : Type} {enc : TypeId × Value → H} {w : World} {base : Nat} {held : Bool} {fuel : Nat} {x : DataW H × List MemPlace}
theorem open_wordC {c : Value} (hc : ∃ a n cap, c = .slice a n cap) (h : DataW.trod enc Tryd.prog w base (fun _ => true) held fuel 25 [c] = some x) (hw : Within Tryd.prog 25 x.1) : ∃ l, WdM w c l ∧ l.length * 8 ≤ 140737488351232 := by
  obtain ⟨a0, len0, cap0, rfl⟩ := hc
  rcases Go.Deep.open_slice Tryd.underlying25 h with ⟨hc, _⟩ | ⟨a, len, cap, m, n, D, Pl, hc, hb, hl, hm, hmm, hx, hi⟩
  · simp only [List.cons.injEq, Value.slice.injEq, and_true] at hc
    obtain ⟨rfl, rfl, rfl⟩ := hc
    exact ⟨[], Src.nil _ _, by simp⟩
  · simp only [List.cons.injEq, Value.slice.injEq, and_true] at hc
    obtain ⟨rfl, rfl, rfl⟩ := hc
    rw [intCells] at hi
    subst hx
    obtain ⟨hr, _⟩ := within_slice Tryd.underlying25 hw
    rw [intBytes, List.length_map, List.length_range] at hr
    have hlm : len0 ≤ m := by rw [hmm]; split <;> omega
    have hi' : ∀ i, ∃ s : Int, i < len0 → w.cell? (a.add i) = some (.int .i64 s) := by
      intro i
      by_cases hil : i < len0
      · obtain ⟨cs', h1, h2⟩ := hi i (by omega)
        rw [Nat.mul_one] at h1
        obtain ⟨_, hlen, hcell⟩ := World.cells?_some h1
        match cs', hlen with
        | [c0], _ =>
          obtain ⟨y, ey, _, wy⟩ := DataW.trod_int intT h2
          simp at ey
          have k0 := hcell 0 (by omega)
          rw [Go.Deep.add_add] at k0
          exact ⟨y, fun _ => by rw [Nat.add_zero] at k0; rw [k0, ey]; rfl⟩
      · exact ⟨0, fun h => absurd h hil⟩
    obtain ⟨g, hg⟩ := Classical.axiomOfChoice hi'
    have hlen : ((List.range len0).map g).length = len0 := by simp
    refine ⟨(List.range len0).map g, ?_, by rw [hlen]; unfold reachBytes at hr; omega⟩
    show Src w 1 _ _ _
    rw [hlen]
    refine ⟨by unfold wcells; rw [List.length_map, hlen, Nat.mul_one], .inr ⟨a, cap0, rfl, fun j u hu => ?_⟩⟩
    unfold wcells at hu
    rw [List.getElem?_map, List.getElem?_map] at hu
    by_cases hj : j < len0
    · rw [List.getElem?_range hj] at hu
      have e : (.int .i64 (g j) : Value) = u := Option.some.inj hu
      have k0 := hg j hj
      rw [e] at k0
      exact ⟨by have := block_lt k0; rwa [add_block] at this, k0⟩
    · rw [List.getElem?_eq_none (by simp; omega)] at hu
      cases hu
end
set_option maxRecDepth 100000 in
theorem open_word {H : Type} {enc : TypeId × Value → H} {w : World} {base : Nat} {r : Reach} {b0 : Nat} {v : Value} {d : DataW H} {ps : List MemPlace} (hv : Value.okWide Tryd.prog w r b0 25 v)
    (h : DataW.Trod enc Tryd.prog w base (fun _ => true) true 25 v d ps) (hw : Within Tryd.prog 25 d) : ∃ l, WdM w v l ∧ l.length * 8 ≤ 140737488351232 := by
  obtain ⟨a0, len0, cap0, rfl⟩ := okWide_slice Tryd.underlying25 hv
  obtain ⟨fuel, hf⟩ := h
  exact open_wordC ⟨_, _, _, rfl⟩ (by simpa [Value.cells] using hf) hw
end Go.Proofs.YteojbnkjphghkaaDoor
