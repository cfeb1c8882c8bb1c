/-
  A list of numbers as an argument, its bulk.
-/
import Derived.Test.YtbckikcfcclioaaMem
import Derived.Test.YtbckikcfcclioaaPost
import Derived.Deep.Slices
import Derived.Deep.Fields
import Derived.ChangeMaps5
namespace Go.Proofs.Ytbckikcfcclioaa
open Go.ChangeMaps Go.ChangeShapes Go.WideShapes Go.ChangeAt Go.RowKit Go.Deep
set_option linter.unusedVariables false
set_option linter.unusedSimpArgs false
def numOf : Value → Int
  | .int _ n => n
  | _ => 0
def undefV : Value := .bool false
theorem addNone (b off j : Nat) : (⟨b, off, none⟩ : Addr).add j = ⟨b, off + j, none⟩ := by simp [Addr.add]
theorem intT2 : Try.prog.underlying 3 = some (.int .i64) := by kernel_rfl
theorem intCells2 : Try.prog.cellsOf 3 = 1 := by kernel_rfl
section
variable {H : Type} {enc : TypeId × Value → H} {w : World} {base : Nat} {held : Bool} {fuel : Nat} {x : DataW H × List MemPlace}
theorem open_numbersB {c : Value} (hc : ∃ a n cap, c = .slice a n cap) (h : DataW.trod enc Try.prog w base (fun _ => true) held fuel 30 [c] = some x) : ∃ ao n cap f, c = .slice ao n cap ∧ n ≤ Rows.uptoBulk x.1 ∧ Ints w ao n f := by
  obtain ⟨a0, len0, cap0, rfl⟩ := hc
  rcases Go.Deep.open_slice Try.underlying30 h with ⟨hc, _⟩ | ⟨a, len, cap, m, n, D, Pl, hc, hb, hl, hm, hmm, hx, hi⟩
  · simp only [List.cons.injEq, Value.slice.injEq, and_true] at hc
    obtain ⟨rfl, rfl, rfl⟩ := hc
    exact ⟨none, 0, 0, fun _ => 0, rfl, Nat.zero_le _, fun h => absurd h (Nat.lt_irrefl _)⟩
  · simp only [List.cons.injEq, Value.slice.injEq, and_true] at hc
    obtain ⟨rfl, rfl, rfl⟩ := hc
    rw [intCells2] at hi
    subst hx
    have hlm : len0 ≤ m := by rw [hmm]; split <;> omega
    have hi' : ∀ i, i < m → ∃ x : Int, w.cell? (a.add i) = some (.int .i64 x) := by
      intro i him
      obtain ⟨cs', h1, h2⟩ := hi i him
      rw [Nat.mul_one] at h1
      obtain ⟨_, hlen, hcell⟩ := World.cells?_some h1
      match cs', hlen with
      | [c0], _ =>
        obtain ⟨x, ex, _, wx⟩ := DataW.trod_int intT2 h2
        simp at ex
        have k0 := hcell 0 (by omega)
        rw [Go.Deep.add_add] at k0
        exact ⟨x, by rw [Nat.add_zero] at k0; rw [k0, ex]; rfl⟩
    refine ⟨some a, len0, cap0, fun i => numOf ((w.cell? (a.add i)).getD undefV), rfl, ?_, fun h0 => ?_⟩
    · have := bulk_len (List.map D (List.range len0))
      simp only [List.length_map, List.length_range] at this
      simp only [Rows.uptoBulk]
      omega
    · obtain ⟨b, off, spot⟩ := a
      have hsp : spot = none := by
        obtain ⟨x, e0⟩ := hi' 0 (by omega)
        cases spot with
        | none => rfl
        | some x =>
          simp only [Addr.add, if_true, World.cell?] at e0
          split at e0 <;> simp at e0
      subst hsp
      refine ⟨b, off, rfl, ?_, fun k hk => ?_⟩
      · obtain ⟨x, e0⟩ := hi' 0 (by omega)
        rw [addNone] at e0
        exact World.block_lt_of_cell? w _ e0
      · obtain ⟨x, e0⟩ := hi' k (by omega)
        dsimp only
        rw [e0]
        rw [addNone] at e0
        exact e0
end
set_option maxRecDepth 100000 in
theorem open_intsB {H : Type} {enc : TypeId × Value → H} {w : World} {base : Nat} {r : Reach} {b0 : Nat} {v : Value} {d : DataW H} {ps : List MemPlace} (hv : Value.okWide Try.prog w r b0 30 v)
    (h : DataW.Trod enc Try.prog w base (fun _ => true) true 30 v d ps) : ∃ ao n cap f, v = .slice ao n cap ∧ n ≤ Rows.uptoBulk d ∧ Ints w ao n f := by
  obtain ⟨a0, len0, cap0, rfl⟩ := okWide_slice Try.underlying30 hv
  obtain ⟨fuel, hf⟩ := h
  exact open_numbersB ⟨_, _, _, rfl⟩ (by simpa [Value.cells] using hf)
end Go.Proofs.Ytbckikcfcclioaa
