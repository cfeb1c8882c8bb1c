/-
  A list of marks as an argument, and how great it is.
-/
import Derived.Test.YtogobjokjpddbaaText
import Derived.Test.YtogobjokjpddbaaPost
import Derived.Deep.Slices
import Derived.Deep.Fields
import Derived.ChangeMaps5
namespace Go.Proofs.Ytogobjokjpddbaa
open Go.ChangeMaps Go.ChangeShapes Go.WideShapes Go.ChangeAt Go.RowKit Go.Deep
set_option linter.unusedVariables false
set_option linter.unusedSimpArgs false
def tot (F : Nat → Int × Int × ByteArray) : Nat → Nat
  | 0 => 0
  | k + 1 => tot F k + (F k).2.2.size + 1
theorem joined_tot (F : Nat → Int × Int × ByteArray) : ∀ n, (joined F n).size ≤ tot F n
  | 0 => Nat.zero_le _
  | n + 1 => by
    have ih := joined_tot F n
    unfold tot
    by_cases h : 0 < n
    · rw [joined_more F n h, ByteArray.size_append, ByteArray.size_append]
      have : (⟨#[32]⟩ : ByteArray).size = 1 := rfl
      omega
    · rw [joined_one F n h, ByteArray.size_append]; omega
theorem tot_each (F : Nat → Int × Int × ByteArray) : ∀ n k, k < n → (F k).2.2.size ≤ tot F n
  | 0, _, h => absurd h (Nat.not_lt_zero _)
  | n + 1, k, h => by
    unfold tot
    by_cases e : k = n
    · subst e; omega
    · have := tot_each F n k (by omega); omega
theorem tot_len (F : Nat → Int × Int × ByteArray) : ∀ n, n ≤ tot F n
  | 0 => Nat.le_refl _
  | n + 1 => by have := tot_len F n; unfold tot; omega
theorem bulk_append {H : Type} (l r : List (DataW H)) : Rows.uptoBulkAll (l ++ r) = Rows.uptoBulkAll l + Rows.uptoBulkAll r := by
  induction l with
  | nil => simp [Rows.uptoBulkAll]
  | cons x l ih => simp only [List.cons_append, Rows.uptoBulkAll, ih]; omega
theorem bulk_tot {H : Type} (F : Nat → Int × Int × ByteArray) (D : Nat → DataW H) : ∀ n, (∀ k, k < n → (F k).2.2.size + 1 ≤ Rows.uptoBulk (D k)) → tot F n ≤ Rows.uptoBulkAll ((List.range n).map D)
  | 0, _ => Nat.zero_le _
  | n + 1, h => by
    have ih := bulk_tot F D n (fun k hk => h k (by omega))
    have h1 := h n (by omega)
    rw [List.range_succ, List.map_append, bulk_append]
    simp only [List.map_cons, List.map_nil, Rows.uptoBulkAll, tot]
    omega
def intOf' : Value → Int
  | .int _ n => n
  | _ => 0
def strOf' : Value → ByteArray
  | .string s => s
  | _ => ⟨#[]⟩
theorem markFields : ∃ f0 f1 f2 : Field, Try.prog.underlying 29 = some (.struct #[f0, f1, f2]) ∧ f0.type = 27 ∧ f1.type = 3 ∧ f2.type = 9 ∧ f0.offset = 0 ∧ f1.offset = 1 ∧ f2.offset = 2 := by
  exact ⟨_, _, _, Try.underlying29, rfl, rfl, rfl, rfl, rfl, rfl⟩
theorem markCells : Try.prog.cellsOf 29 = 3 := by kernel_rfl
theorem kindCells : Try.prog.cellsOf 27 = 1 := by kernel_rfl
theorem intCells : Try.prog.cellsOf 3 = 1 := by kernel_rfl
theorem strCells : Try.prog.cellsOf 9 = 1 := by kernel_rfl
theorem kindType : Try.prog.underlying 27 = some (.int .i64) := by kernel_rfl
theorem intType : Try.prog.underlying 3 = some (.int .i64) := by kernel_rfl
theorem strType : Try.prog.underlying 9 = some .string := by kernel_rfl
theorem open_marks {H : Type} {enc : TypeId × Value → H} {w : World} {base : Nat} {r : Reach} {b0 : Nat} {v : Value} {d : DataW H} {ps : List MemPlace} (hv : Value.okWide Try.prog w r b0 22 v)
    (h : DataW.Trod enc Try.prog w base (fun _ => true) true 22 v d ps) : ∃ n F, SlM w v n F ∧ tot F n ≤ Rows.uptoBulk d := by
  obtain ⟨a0, len0, cap0, rfl⟩ := okWide_slice markType hv
  obtain ⟨fuel, hf⟩ := h
  obtain ⟨f0, f1, f2, hs, t0, t1, t2, o0, o1, o2⟩ := markFields
  rcases Go.Deep.open_slice markType hf with ⟨hc, _⟩ | ⟨a, len, cap, m, n, D, Pl, hc, hb, hl, hm, hmm, hx, hi⟩
  · simp only [Value.cells, List.cons.injEq, Value.slice.injEq, and_true] at hc
    obtain ⟨rfl, rfl, rfl⟩ := hc
    exact ⟨0, fun _ => (0, 0, ⟨#[]⟩), ⟨none, 0, rfl, fun h => absurd h (Nat.lt_irrefl _)⟩, Nat.zero_le _⟩
  · simp only [Value.cells, List.cons.injEq, Value.slice.injEq, and_true] at hc
    obtain ⟨rfl, rfl, rfl⟩ := hc
    rw [markCells] at hi
    have hi' : ∀ i, i < m → ∃ (x y : Int) (s : ByteArray), w.cell? (a.add (i * 3)) = some (.int .i64 x) ∧ w.cell? (a.add (i * 3 + 1)) = some (.int .i64 y) ∧ w.cell? (a.add (i * 3 + 2)) = some (.string s) ∧ s.size + 1 ≤ Rows.uptoBulk (D i) := by
      intro i him
      obtain ⟨cs', h1, h2⟩ := hi i him
      obtain ⟨_, hlen, hcell⟩ := World.cells?_some h1
      match cs', hlen with
      | [c0, c1, c2], _ =>
        obtain ⟨xs, n', hn', hD, _, hxl, hfld⟩ := DataW.trod_struct hs h2
        have g0 := hfld 0 f0 rfl
        have g1 := hfld 1 f1 rfl
        have g2 := hfld 2 f2 rfl
        rw [o0, t0, kindCells] at g0
        rw [o1, t1, intCells] at g1
        rw [o2, t2, strCells] at g2
        match xs, hxl with
        | [x0, x1, x2], _ =>
          obtain ⟨x, ex, _⟩ := DataW.trod_int kindType g0
          obtain ⟨y, ey, _⟩ := DataW.trod_int intType g1
          obtain ⟨s, es, hx2, _⟩ := DataW.trod_string strType g2
          simp at ex ey es
          have k0 := hcell 0 (by omega)
          have k1 := hcell 1 (by omega)
          have k2 := hcell 2 (by omega)
          rw [Go.Deep.add_add] at k0 k1 k2
          refine ⟨x, y, s, by rw [Nat.add_zero] at k0; rw [k0, ex]; rfl, by rw [k1, ey]; rfl, by rw [k2, es]; rfl, ?_⟩
          have hDi : D i = .agg [x0.1, x1.1, x2.1] := by have := congrArg Prod.fst hD; simpa using this
          rw [hDi, hx2]
          have hsz : s.size = s.data.toList.length := by simp
          have := bulk_pos x0.1
          simp only [Rows.uptoBulk, Rows.uptoBulkAll]
          omega
    have hlm : len0 ≤ m := by rw [hmm]; split <;> omega
    have hex : ∃ F : Nat → Int × Int × ByteArray, ∀ i, i < len0 → w.cell? (a.add (i * 3)) = some (.int .i64 (F i).1) ∧ w.cell? (a.add (i * 3 + 1)) = some (.int .i64 (F i).2.1) ∧ w.cell? (a.add (i * 3 + 2)) = some (.string (F i).2.2) ∧ (F i).2.2.size + 1 ≤ Rows.uptoBulk (D i) := by
      refine ⟨fun i => (intOf' ((w.cell? (a.add (i * 3))).getD undef), intOf' ((w.cell? (a.add (i * 3 + 1))).getD undef), strOf' ((w.cell? (a.add (i * 3 + 2))).getD undef)), fun i hil => ?_⟩
      obtain ⟨x, y, s, e0, e1, e2, e3⟩ := hi' i (by omega)
      dsimp only
      rw [e0, e1, e2]
      exact ⟨rfl, rfl, rfl, e3⟩
    obtain ⟨F, hF⟩ := hex
    refine ⟨len0, F, ⟨_, cap0, rfl, fun h0 => ?_⟩, ?_⟩
    · obtain ⟨b, off, spot⟩ := a
      have hsp : spot = none := by
        have := (hF 0 h0).1
        cases spot with
        | none => rfl
        | some x =>
          simp only [Nat.zero_mul, Addr.add, if_true, World.cell?] at this
          split at this <;> simp at this
      subst hsp
      have hlt : b < w.heap.size := by
        have := block_lt_of_cell (hF 0 h0).1
        rw [add_none] at this
        exact this
      refine ⟨b, off, rfl, hlt, fun k hk => ?_⟩
      obtain ⟨e0, e1, e2, _⟩ := hF k hk
      rw [add_none] at e0 e1 e2
      exact ⟨e0, by rw [Nat.add_assoc]; exact e1, by rw [Nat.add_assoc]; exact e2⟩
    · have hd := congrArg Prod.fst hx
      dsimp only at hd
      rw [hd]
      have := bulk_tot F D len0 (fun k hk => (hF k hk).2.2.2)
      simp only [Rows.uptoBulk]
      omega
end Go.Proofs.Ytogobjokjpddbaa
