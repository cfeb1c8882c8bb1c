/-
  Productions as an argument, their bulk.
-/
import Derived.Test.YtjkfieilaahejaaCnfArg
import Derived.Test.YtjkfieilaahejaaTot
namespace Go.Proofs.Ytjkfieilaahejaa
open Go.ChangeMaps Go.ChangeShapes Go.WideShapes Go.ChangeAt Go.RowKit Go.Deep
set_option linter.unusedVariables false
set_option linter.unusedSimpArgs false
theorem tot_bulk {H : Type} (g : Nat → Tr) (D : Nat → DataW H) : ∀ l : List Nat, (∀ i ∈ l, (g i).2.2.length ≤ Rows.uptoBulk (D i)) → tot (l.map g) ≤ Rows.uptoBulkAll (l.map D)
  | [], _ => Nat.le_refl _
  | i :: l, h => by
    have h1 := h i (List.mem_cons_self ..)
    have h2 := tot_bulk g D l fun j hj => h j (List.mem_cons_of_mem _ hj)
    simp only [List.map_cons, tot, Rows.uptoBulkAll]
    omega
theorem bulk_app {H : Type} : ∀ a b : List (DataW H), Rows.uptoBulkAll (a ++ b) = Rows.uptoBulkAll a + Rows.uptoBulkAll b
  | [], b => by simp [Rows.uptoBulkAll]
  | x :: a, b => by rw [List.cons_append, Rows.uptoBulkAll, Rows.uptoBulkAll, bulk_app a b]; omega
theorem bulk_take {H : Type} (D : Nat → DataW H) {n m : Nat} (h : n ≤ m) : Rows.uptoBulkAll ((List.range n).map D) ≤ Rows.uptoBulkAll ((List.range m).map D) := by
  obtain ⟨k, rfl⟩ : ∃ k, m = n + k := ⟨m - n, by omega⟩
  rw [List.range_add, List.map_append, bulk_app]
  omega
section
variable {H : Type} {enc : TypeId × Value → H} {w : World} {base : Nat} {held : Bool} {fuel : Nat} {x : DataW H × List MemPlace}
theorem open_bodyB {c : Value} (hc : ∃ a n cap, c = .slice a n cap) (h : DataW.trod enc Try.prog w base (fun _ => true) held fuel 42 [c] = some x) : ∃ l, Body w c l ∧ l.length ≤ Rows.uptoBulk x.1 := by
  obtain ⟨a0, len0, cap0, rfl⟩ := hc
  obtain ⟨s0, s1, hs, u0, u1, p0, p1⟩ := symFields
  rcases Go.Deep.open_slice Try.underlying42 h with ⟨hc, _⟩ | ⟨a, len, cap, m, n, D, Pl, hc, hb, hl, hm, hmm, hx, hi⟩
  · simp only [List.cons.injEq, Value.slice.injEq, and_true] at hc
    obtain ⟨rfl, rfl, rfl⟩ := hc
    exact ⟨[], Src.nil _ _, by simp⟩
  · simp only [List.cons.injEq, Value.slice.injEq, and_true] at hc
    obtain ⟨rfl, rfl, rfl⟩ := hc
    rw [symCells] at hi
    subst hx
    have hlm : len0 ≤ m := by rw [hmm]; split <;> omega
    have hi' : ∀ i, ∃ s : Sy, i < len0 → w.cell? (a.add (i * 2)) = some (.bool s.1) ∧ w.cell? (a.add (i * 2 + 1)) = some (.int .i64 s.2) := by
      intro i
      by_cases hil : i < len0
      · obtain ⟨cs', h1, h2⟩ := hi i (by omega)
        obtain ⟨_, hlen, hcell⟩ := World.cells?_some h1
        match cs', hlen with
        | [c0, c1], _ =>
          obtain ⟨xs, n', hn', hD, _, hxl, hfld⟩ := DataW.trod_struct hs h2
          have q0 := hfld 0 s0 rfl
          have q1 := hfld 1 s1 rfl
          rw [p0, u0, boolCells] at q0
          rw [p1, u1, intCells] at q1
          match xs, hxl with
          | [x0, x1], _ =>
            obtain ⟨b, eb, _⟩ := DataW.trod_bool boolT q0
            obtain ⟨y, ey, _, wy⟩ := DataW.trod_int intT q1
            simp at eb ey
            have k0 := hcell 0 (by omega)
            have k1 := hcell 1 (by omega)
            rw [Go.Deep.add_add] at k0 k1
            exact ⟨(b, y), fun _ => ⟨by rw [Nat.add_zero] at k0; rw [k0, eb]; rfl, by rw [k1, ey]; rfl⟩⟩
      · exact ⟨(false, 0), fun h => absurd h hil⟩
    obtain ⟨g, hg⟩ := Classical.axiomOfChoice hi'
    have hlen : ((List.range len0).map g).length = len0 := by simp
    refine ⟨(List.range len0).map g, ?_, by
      rw [hlen]
      have := bulk_len (List.map D (List.range len0))
      simp only [List.length_map, List.length_range] at this
      simp only [Rows.uptoBulk]
      omega⟩
    have := src_made (w := w) (f := scell) (k := 2) (fun _ => rfl) (a := a) (c := cap0) (l := (List.range len0).map g) (fun i s hs r u hu => by
      have hil : i < len0 := by have := (List.getElem?_eq_some_iff.1 hs).1; rwa [hlen] at this
      obtain ⟨k0, k1⟩ := hg i hil
      have e : g i = s := by rw [List.getElem?_map, List.getElem?_range hil] at hs; exact Option.some.inj hs
      rw [e] at k0 k1
      match r, hu with
      | 0, hu => simp [scell] at hu; subst hu; exact k0
      | 1, hu => simp [scell] at hu; subst hu; exact k1
      | r + 2, hu => simp [scell] at hu)
    rw [hlen] at this
    show Src w 2 _ _ _
    rw [hlen]
    exact this
theorem open_prodsB {c : Value} (hc : ∃ a n cap, c = .slice a n cap) (h : DataW.trod enc Try.prog w base (fun _ => true) held fuel 22 [c] = some x) : ∃ T, Prods w c T ∧ tot T ≤ Rows.uptoBulk x.1 ∧ T.length ≤ Rows.uptoBulk x.1 := by
  obtain ⟨a0, len0, cap0, rfl⟩ := hc
  obtain ⟨s0, s1, hs, u0, u1, p0, p1⟩ := prodFields
  rcases Go.Deep.open_slice Try.underlying22 h with ⟨hc, _⟩ | ⟨a, len, cap, m, n, D, Pl, hc, hb, hl, hm, hmm, hx, hi⟩
  · simp only [List.cons.injEq, Value.slice.injEq, and_true] at hc
    obtain ⟨rfl, rfl, rfl⟩ := hc
    exact ⟨[], ⟨Src.nil _ _, fun t ht => by cases ht⟩, by simp [tot], by simp⟩
  · simp only [List.cons.injEq, Value.slice.injEq, and_true] at hc
    obtain ⟨rfl, rfl, rfl⟩ := hc
    rw [prodCells] at hi
    subst hx
    have hlm : len0 ≤ m := by rw [hmm]; split <;> omega
    have hi' : ∀ i, ∃ t : Tr, i < len0 → w.cell? (a.add (i * 2)) = some (.int .i64 t.1) ∧ w.cell? (a.add (i * 2 + 1)) = some t.2.1 ∧ Body w t.2.1 t.2.2 ∧ t.2.2.length ≤ Rows.uptoBulk (D i) := by
      intro i
      by_cases hil : i < len0
      · obtain ⟨cs', h1, h2⟩ := hi i (by omega)
        obtain ⟨_, hlen, hcell⟩ := World.cells?_some h1
        match cs', hlen with
        | [c0, c1], _ =>
          obtain ⟨xs, n', hn', hD, _, hxl, hfld⟩ := DataW.trod_struct hs h2
          have q0 := hfld 0 s0 rfl
          have q1 := hfld 1 s1 rfl
          rw [p0, u0, intCells] at q0
          rw [p1, u1, symsCells] at q1
          match xs, hxl with
          | [x0, x1], _ =>
            obtain ⟨y, ey, _, wy⟩ := DataW.trod_int intT q0
            have e1 : ∃ a n cap, c1 = .slice a n cap := by
              rcases Go.Deep.open_slice Try.underlying42 q1 with ⟨hc, _⟩ | ⟨a, len, cap, m, n, D, Pl, hc, _⟩
              · simp at hc; exact ⟨_, _, _, hc⟩
              · simp at hc; exact ⟨_, _, _, hc⟩
            have hD1 : D i = .agg [x0.1, x1.1] := by have := congrArg Prod.fst hD; simpa using this
            obtain ⟨l, hl1, hl3⟩ := open_bodyB e1 (by simpa using q1)
            simp at ey
            have k0 := hcell 0 (by omega)
            have k1 := hcell 1 (by omega)
            rw [Go.Deep.add_add] at k0 k1
            exact ⟨(y, c1, l), fun _ => ⟨by rw [Nat.add_zero] at k0; rw [k0, ey]; rfl, by rw [k1]; rfl, hl1, by
              rw [hD1]
              simp only [Rows.uptoBulk, Rows.uptoBulkAll]
              omega⟩⟩
      · exact ⟨(0, .bool false, []), fun h => absurd h hil⟩
    obtain ⟨g, hg⟩ := Classical.axiomOfChoice hi'
    have hlen : ((List.range len0).map g).length = len0 := by simp
    have hmem : ∀ t ∈ (List.range len0).map g, ∃ i, i < len0 ∧ g i = t := fun t ht => by
      obtain ⟨i, hi, e⟩ := List.mem_map.1 ht
      exact ⟨i, List.mem_range.1 hi, e⟩
    refine ⟨(List.range len0).map g, ⟨?_, fun t ht => ?_⟩, ?_, ?_⟩
    · have := src_made (w := w) (f := tcell) (k := 2) (fun _ => rfl) (a := a) (c := cap0) (l := (List.range len0).map g) (fun i s hs r u hu => by
        have hil : i < len0 := by have := (List.getElem?_eq_some_iff.1 hs).1; rwa [hlen] at this
        obtain ⟨k0, k1, _⟩ := hg i hil
        have e : g i = s := by rw [List.getElem?_map, List.getElem?_range hil] at hs; exact Option.some.inj hs
        rw [e] at k0 k1
        match r, hu with
        | 0, hu => simp [tcell] at hu; subst hu; exact k0
        | 1, hu => simp [tcell] at hu; subst hu; exact k1
        | r + 2, hu => simp [tcell] at hu)
      rw [hlen] at this
      show Src w 2 _ _ _
      rw [hlen]
      exact this
    · obtain ⟨i, hi, rfl⟩ := hmem t ht
      exact (hg i hi).2.2.1
    · have h1 := tot_bulk g D (List.range len0) fun i hi => (hg i (List.mem_range.1 hi)).2.2.2
      simp only [Rows.uptoBulk]
      omega
    · rw [hlen]
      have := bulk_len (List.map D (List.range len0))
      simp only [List.length_map, List.length_range] at this
      simp only [Rows.uptoBulk]
      omega
end
set_option maxRecDepth 100000 in
theorem open_cnfB {H : Type} {enc : TypeId × Value → H} {w : World} {base : Nat} {r : Reach} {b0 : Nat} {v : Value} {d : DataW H} {ps : List MemPlace} (hv : Value.okWide Try.prog w r b0 24 v)
    (h : DataW.Trod enc Try.prog w base (fun _ => true) true 24 v d ps) : ∃ S pv T, v = .agg #[.int .i64 S, pv] ∧ Prods w pv T ∧ tot T ≤ Rows.uptoBulk d ∧ T.length ≤ Rows.uptoBulk d := by
  obtain ⟨f0, f1, hs, t0, t1, o0, o1⟩ := cnfFields
  obtain ⟨cs, rfl, hsz⟩ := okWide_struct hs hv
  rw [cnfCells] at hsz
  obtain ⟨fuel, hf⟩ := h
  match cs, hsz with
  | ⟨[c0, c1]⟩, _ =>
    obtain ⟨xs, n', hn', hD, _, hxl, hfld⟩ := DataW.trod_struct hs hf
    have g0 := hfld 0 f0 rfl
    have g1 := hfld 1 f1 rfl
    rw [o0, t0, intCells] at g0
    rw [o1, t1, prodsCells] at g1
    match xs, hxl with
    | [x0, x1], _ =>
      obtain ⟨S, eS, _, wS⟩ := DataW.trod_int intT g0
      have e1 : ∃ a n cap, c1 = .slice a n cap := by
        rcases Go.Deep.open_slice Try.underlying22 g1 with ⟨hc, _⟩ | ⟨a, len, cap, m, n, D, Pl, hc, _⟩
        · simp [Value.cells] at hc; exact ⟨_, _, _, hc⟩
        · simp [Value.cells] at hc; exact ⟨_, _, _, hc⟩
      have hD1 : d = .agg [x0.1, x1.1] := by have := congrArg Prod.fst hD; simpa using this
      obtain ⟨T, hP, hl3, hl4⟩ := open_prodsB e1 (by simpa [Value.cells] using g1)
      simp [Value.cells] at eS
      subst eS
      exact ⟨S, c1, T, rfl, hP, by
        rw [hD1]
        simp only [Rows.uptoBulk, Rows.uptoBulkAll]
        omega, by
        rw [hD1]
        simp only [Rows.uptoBulk, Rows.uptoBulkAll]
        omega⟩
end Go.Proofs.Ytjkfieilaahejaa
