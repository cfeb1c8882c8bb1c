/-
  Productions as an argument.
-/
import Derived.Test.YteojbnkjphghkaaDoorCnf
import Derived.Test.YteojbnkjphghkaaDoorPost
import Derived.Deep.Slices
import Derived.Deep.Fields
import Derived.ChangeMaps5
namespace Go.Proofs.YteojbnkjphghkaaDoor
open Go.ChangeMaps Go.ChangeShapes Go.WideShapes Go.ChangeAt Go.RowKit Go.Deep
set_option linter.unusedVariables false
set_option linter.unusedSimpArgs false
theorem intT : Tryd.prog.underlying 3 = some (.int .i64) := by kernel_rfl
theorem boolT : Tryd.prog.underlying 4 = some .bool := by kernel_rfl
theorem cnfFields : ∃ f0 f1 : Field, Tryd.prog.underlying 24 = some (.struct #[f0, f1]) ∧ f0.type = 3 ∧ f1.type = 22 ∧ f0.offset = 0 ∧ f1.offset = 1 := ⟨_, _, Tryd.underlying24, rfl, rfl, rfl, rfl⟩
theorem prodFields : ∃ f0 f1 : Field, Tryd.prog.underlying 48 = some (.struct #[f0, f1]) ∧ f0.type = 3 ∧ f1.type = 46 ∧ f0.offset = 0 ∧ f1.offset = 1 := ⟨_, _, Tryd.underlying48, rfl, rfl, rfl, rfl⟩
theorem symFields : ∃ f0 f1 : Field, Tryd.prog.underlying 50 = some (.struct #[f0, f1]) ∧ f0.type = 4 ∧ f1.type = 3 ∧ f0.offset = 0 ∧ f1.offset = 1 := ⟨_, _, Tryd.underlying50, rfl, rfl, rfl, rfl⟩
theorem cnfCells : Tryd.prog.cellsOf 24 = 2 := by kernel_rfl
theorem prodCells : Tryd.prog.cellsOf 48 = 2 := by kernel_rfl
theorem symCells : Tryd.prog.cellsOf 50 = 2 := by kernel_rfl
theorem boolCells : Tryd.prog.cellsOf 4 = 1 := by kernel_rfl
theorem intCells : Tryd.prog.cellsOf 3 = 1 := by kernel_rfl
theorem prodsCells : Tryd.prog.cellsOf 22 = 1 := by kernel_rfl
theorem symsCells : Tryd.prog.cellsOf 46 = 1 := by kernel_rfl
theorem prodBytes : Tryd.prog.bytesOf 48 = 32 := by kernel_rfl
theorem symBytes : Tryd.prog.bytesOf 50 = 16 := by kernel_rfl
/-- Every list within the datum is within reach. -/
def Within {H : Type} (P : Program) (t : TypeId) (d : DataW H) : Prop := ∀ n ∈ d.weights P t, n ≤ reachBytes
theorem within_part {H : Type} {P : Program} {t : TypeId} {fs : Array Field} {parts : List (DataW H)} (ht : P.underlying t = some (.struct fs)) (h : Within P t (.agg parts)) {i : Nat} {f : Field} {x : DataW H} (hf : fs[i]? = some f) (hx : parts[i]? = some x) : Within P f.type x := fun n hn => by
  refine h n ?_
  simp only [DataW.weights, ht]
  exact DataW.weights_mem_each (j := i) (by simp [hf]) hx n hn
theorem weights_all {H : Type} {P : Program} {e : TypeId} {l : List (DataW H)} {d : DataW H} (hd : d ∈ l) {n : Nat} (hn : n ∈ d.weights P e) : n ∈ DataW.weightsAll P e l := by
  induction l with
  | nil => cases hd
  | cons x r ih =>
    simp only [DataW.weightsAll, List.mem_append]
    rcases List.mem_cons.1 hd with rfl | h
    · exact .inl hn
    · exact .inr (ih h)
theorem within_slice {H : Type} {P : Program} {t e : TypeId} {elems spare : List (DataW H)} (ht : P.underlying t = some (.slice e)) (h : Within P t (.slice elems spare)) : elems.length * P.bytesOf e ≤ reachBytes ∧ ∀ d ∈ elems, Within P e d := by
  constructor
  · have := h ((elems.length + spare.length) * P.bytesOf e) (by simp [DataW.weights, ht])
    rw [Nat.add_mul] at this
    omega
  · intro d hd n hn
    refine h n ?_
    simp only [DataW.weights, ht, List.mem_cons, List.mem_append]
    exact .inr (.inl (weights_all hd hn))
theorem flat_get' {α : Type} (f : α → List Value) (k : Nat) (hf : ∀ x, (f x).length = k) (l : List α) {j : Nat} {u : Value} (h : (l.flatMap f)[j]? = some u) : ∃ i r x, l[i]? = some x ∧ r < k ∧ j = i * k + r ∧ (f x)[r]? = some u := by
  have hj := (List.getElem?_eq_some_iff.1 h).1
  rw [flat_len f k hf] at hj
  have hk : 0 < k := by
    rcases Nat.eq_zero_or_pos k with h | h
    · subst h; omega
    · exact h
  have hi : j / k < l.length := Nat.div_lt_of_lt_mul (by rw [Nat.mul_comm]; exact hj)
  have hr : j % k < k := Nat.mod_lt _ hk
  have e : j = j / k * k + j % k := by rw [Nat.mul_comm]; exact (Nat.div_add_mod j k).symm
  have hx := List.getElem?_eq_getElem hi
  refine ⟨j / k, j % k, l[j / k], hx, hr, e, ?_⟩
  rw [← flat_get f k hf l _ _ _ hx hr, ← e]
  exact h
section
variable {H : Type} {enc : TypeId × Value → H} {w : World} {base : Nat} {held : Bool} {fuel : Nat} {x : DataW H × List MemPlace}
theorem block_lt {a : Addr} {v : Value} (h : w.cell? a = some v) : a.block < w.heap.size := World.block_lt_of_cell? w _ h
theorem src_made {α : Type} {f : α → List Value} {k : Nat} (hf : ∀ x, (f x).length = k) {a : Addr} {c : Nat} {l : List α} (h : ∀ i x, l[i]? = some x → ∀ r u, (f x)[r]? = some u → w.cell? (a.add (i * k + r)) = some u) : Src w k (.slice (some a) l.length c) l.length (l.flatMap f) := by
  refine ⟨flat_len f k hf l, .inr ⟨a, c, rfl, fun j u hu => ?_⟩⟩
  obtain ⟨i, r, y, hy, hr, rfl, hu'⟩ := flat_get' f k hf l hu
  have := h i y hy r u hu'
  exact ⟨by have := block_lt this; rwa [add_block] at this, this⟩
theorem open_body {c : Value} (hc : ∃ a n cap, c = .slice a n cap) (h : DataW.trod enc Tryd.prog w base (fun _ => true) held fuel 46 [c] = some x) (hw : Within Tryd.prog 46 x.1) : ∃ l, Body w c l ∧ l.length * 16 ≤ 140737488351232 := by
  obtain ⟨a0, len0, cap0, rfl⟩ := hc
  obtain ⟨s0, s1, hs, u0, u1, p0, p1⟩ := symFields
  rcases Go.Deep.open_slice Tryd.underlying46 h with ⟨hc, _⟩ | ⟨a, len, cap, m, n, D, Pl, hc, hb, hl, hm, hmm, hx, hi⟩
  · simp only [List.cons.injEq, Value.slice.injEq, and_true] at hc
    obtain ⟨rfl, rfl, rfl⟩ := hc
    exact ⟨[], Src.nil _ _, by simp⟩
  · simp only [List.cons.injEq, Value.slice.injEq, and_true] at hc
    obtain ⟨rfl, rfl, rfl⟩ := hc
    rw [symCells] at hi
    subst hx
    obtain ⟨hr, _⟩ := within_slice Tryd.underlying46 hw
    rw [symBytes, List.length_map, List.length_range] at hr
    have hlm : len0 ≤ m := by rw [hmm]; split <;> omega
    have hi' : ∀ i, ∃ s : Sy, i < len0 → w.cell? (a.add (i * 2)) = some (.bool s.1) ∧ w.cell? (a.add (i * 2 + 1)) = some (.int .i64 s.2) := by
      intro i
      by_cases hil : i < len0
      · obtain ⟨cs', h1, h2⟩ := hi i (by omega)
        obtain ⟨_, hlen, hcell⟩ := World.cells?_some h1
        match cs', hlen with
        | [c0, c1], _ =>
          obtain ⟨xs, n', hn', hD, _, hxl, hfld⟩ := DataW.trod_struct hs h2
          have q0 := hfld 0 s0 rfl
          have q1 := hfld 1 s1 rfl
          rw [p0, u0, boolCells] at q0
          rw [p1, u1, intCells] at q1
          match xs, hxl with
          | [x0, x1], _ =>
            obtain ⟨b, eb, _⟩ := DataW.trod_bool boolT q0
            obtain ⟨y, ey, _, wy⟩ := DataW.trod_int intT q1
            simp at eb ey
            have k0 := hcell 0 (by omega)
            have k1 := hcell 1 (by omega)
            rw [Go.Deep.add_add] at k0 k1
            exact ⟨(b, y), fun _ => ⟨by rw [Nat.add_zero] at k0; rw [k0, eb]; rfl, by rw [k1, ey]; rfl⟩⟩
      · exact ⟨(false, 0), fun h => absurd h hil⟩
    obtain ⟨g, hg⟩ := Classical.axiomOfChoice hi'
    have hlen : ((List.range len0).map g).length = len0 := by simp
    refine ⟨(List.range len0).map g, ?_, by rw [hlen]; unfold reachBytes at hr; omega⟩
    have := src_made (w := w) (f := scell) (k := 2) (fun _ => rfl) (a := a) (c := cap0) (l := (List.range len0).map g) (fun i s hs r u hu => by
      have hil : i < len0 := by have := (List.getElem?_eq_some_iff.1 hs).1; rwa [hlen] at this
      obtain ⟨k0, k1⟩ := hg i hil
      have e : g i = s := by rw [List.getElem?_map, List.getElem?_range hil] at hs; exact Option.some.inj hs
      rw [e] at k0 k1
      match r, hu with
      | 0, hu => simp [scell] at hu; subst hu; exact k0
      | 1, hu => simp [scell] at hu; subst hu; exact k1
      | r + 2, hu => simp [scell] at hu)
    rw [hlen] at this
    show Src w 2 _ _ _
    rw [hlen]
    exact this
theorem open_prods {c : Value} (hc : ∃ a n cap, c = .slice a n cap) (h : DataW.trod enc Tryd.prog w base (fun _ => true) held fuel 22 [c] = some x) (hw : Within Tryd.prog 22 x.1) : ∃ T, Prods w c T ∧ T.length * 32 ≤ 140737488351232 ∧ ∀ t ∈ T, t.2.2.length * 16 ≤ 140737488351232 := by
  obtain ⟨a0, len0, cap0, rfl⟩ := hc
  obtain ⟨s0, s1, hs, u0, u1, p0, p1⟩ := prodFields
  rcases Go.Deep.open_slice Tryd.underlying22 h with ⟨hc, _⟩ | ⟨a, len, cap, m, n, D, Pl, hc, hb, hl, hm, hmm, hx, hi⟩
  · simp only [List.cons.injEq, Value.slice.injEq, and_true] at hc
    obtain ⟨rfl, rfl, rfl⟩ := hc
    exact ⟨[], ⟨Src.nil _ _, fun t ht => by cases ht⟩, by simp, fun t ht => by cases ht⟩
  · simp only [List.cons.injEq, Value.slice.injEq, and_true] at hc
    obtain ⟨rfl, rfl, rfl⟩ := hc
    rw [prodCells] at hi
    subst hx
    obtain ⟨hr, hwe⟩ := within_slice Tryd.underlying22 hw
    rw [prodBytes, List.length_map, List.length_range] at hr
    have hlm : len0 ≤ m := by rw [hmm]; split <;> omega
    have hi' : ∀ i, ∃ t : Tr, i < len0 → w.cell? (a.add (i * 2)) = some (.int .i64 t.1) ∧ w.cell? (a.add (i * 2 + 1)) = some t.2.1 ∧ Body w t.2.1 t.2.2 ∧ t.2.2.length * 16 ≤ 140737488351232 := by
      intro i
      by_cases hil : i < len0
      · obtain ⟨cs', h1, h2⟩ := hi i (by omega)
        obtain ⟨_, hlen, hcell⟩ := World.cells?_some h1
        have hwi : Within Tryd.prog 48 (D i) := hwe _ (List.mem_map.2 ⟨i, List.mem_range.2 hil, rfl⟩)
        match cs', hlen with
        | [c0, c1], _ =>
          obtain ⟨xs, n', hn', hD, _, hxl, hfld⟩ := DataW.trod_struct hs h2
          have q0 := hfld 0 s0 rfl
          have q1 := hfld 1 s1 rfl
          rw [p0, u0, intCells] at q0
          rw [p1, u1, symsCells] at q1
          match xs, hxl with
          | [x0, x1], _ =>
            obtain ⟨y, ey, _, wy⟩ := DataW.trod_int intT q0
            have e1 : ∃ a n cap, c1 = .slice a n cap := by
              rcases Go.Deep.open_slice Tryd.underlying46 q1 with ⟨hc, _⟩ | ⟨a, len, cap, m, n, D, Pl, hc, _⟩
              · simp at hc; exact ⟨_, _, _, hc⟩
              · simp at hc; exact ⟨_, _, _, hc⟩
            have hD1 : D i = .agg [x0.1, x1.1] := by have := congrArg Prod.fst hD; simpa using this
            rw [hD1] at hwi
            have hw1 : Within Tryd.prog 46 x1.1 := u1 ▸ within_part hs hwi (i := 1) (f := s1) rfl rfl
            obtain ⟨l, hl1, hl2⟩ := open_body e1 (by simpa using q1) hw1
            simp at ey
            have k0 := hcell 0 (by omega)
            have k1 := hcell 1 (by omega)
            rw [Go.Deep.add_add] at k0 k1
            exact ⟨(y, c1, l), fun _ => ⟨by rw [Nat.add_zero] at k0; rw [k0, ey]; rfl, by rw [k1]; rfl, hl1, hl2⟩⟩
      · exact ⟨(0, .bool false, []), fun h => absurd h hil⟩
    obtain ⟨g, hg⟩ := Classical.axiomOfChoice hi'
    have hlen : ((List.range len0).map g).length = len0 := by simp
    have hmem : ∀ t ∈ (List.range len0).map g, ∃ i, i < len0 ∧ g i = t := fun t ht => by
      obtain ⟨i, hi, e⟩ := List.mem_map.1 ht
      exact ⟨i, List.mem_range.1 hi, e⟩
    refine ⟨(List.range len0).map g, ⟨?_, fun t ht => ?_⟩, by rw [hlen]; unfold reachBytes at hr; omega, fun t ht => ?_⟩
    · have := src_made (w := w) (f := tcell) (k := 2) (fun _ => rfl) (a := a) (c := cap0) (l := (List.range len0).map g) (fun i s hs r u hu => by
        have hil : i < len0 := by have := (List.getElem?_eq_some_iff.1 hs).1; rwa [hlen] at this
        obtain ⟨k0, k1, _⟩ := hg i hil
        have e : g i = s := by rw [List.getElem?_map, List.getElem?_range hil] at hs; exact Option.some.inj hs
        rw [e] at k0 k1
        match r, hu with
        | 0, hu => simp [tcell] at hu; subst hu; exact k0
        | 1, hu => simp [tcell] at hu; subst hu; exact k1
        | r + 2, hu => simp [tcell] at hu)
      rw [hlen] at this
      show Src w 2 _ _ _
      rw [hlen]
      exact this
    · obtain ⟨i, hi, rfl⟩ := hmem t ht
      exact (hg i hi).2.2.1
    · obtain ⟨i, hi, rfl⟩ := hmem t ht
      exact (hg i hi).2.2.2
end
set_option maxRecDepth 100000 in
theorem open_cnf {H : Type} {enc : TypeId × Value → H} {w : World} {base : Nat} {r : Reach} {b0 : Nat} {v : Value} {d : DataW H} {ps : List MemPlace} (hv : Value.okWide Tryd.prog w r b0 24 v)
    (h : DataW.Trod enc Tryd.prog w base (fun _ => true) true 24 v d ps) (hw : Within Tryd.prog 24 d) : ∃ S pv T, v = .agg #[.int .i64 S, pv] ∧ Prods w pv T ∧ T.length * 32 ≤ 140737488351232 ∧ ∀ t ∈ T, t.2.2.length * 16 ≤ 140737488351232 := by
  obtain ⟨f0, f1, hs, t0, t1, o0, o1⟩ := cnfFields
  obtain ⟨cs, rfl, hsz⟩ := okWide_struct hs hv
  rw [cnfCells] at hsz
  obtain ⟨fuel, hf⟩ := h
  match cs, hsz with
  | ⟨[c0, c1]⟩, _ =>
    obtain ⟨xs, n', hn', hD, _, hxl, hfld⟩ := DataW.trod_struct hs hf
    have g0 := hfld 0 f0 rfl
    have g1 := hfld 1 f1 rfl
    rw [o0, t0, intCells] at g0
    rw [o1, t1, prodsCells] at g1
    match xs, hxl with
    | [x0, x1], _ =>
      obtain ⟨S, eS, _, wS⟩ := DataW.trod_int intT g0
      have e1 : ∃ a n cap, c1 = .slice a n cap := by
        rcases Go.Deep.open_slice Tryd.underlying22 g1 with ⟨hc, _⟩ | ⟨a, len, cap, m, n, D, Pl, hc, _⟩
        · simp [Value.cells] at hc; exact ⟨_, _, _, hc⟩
        · simp [Value.cells] at hc; exact ⟨_, _, _, hc⟩
      have hD1 : d = .agg [x0.1, x1.1] := by have := congrArg Prod.fst hD; simpa using this
      rw [hD1] at hw
      have hw1 : Within Tryd.prog 22 x1.1 := t1 ▸ within_part hs hw (i := 1) (f := f1) rfl rfl
      obtain ⟨T, hP, hl, hl2⟩ := open_prods e1 (by simpa [Value.cells] using g1) hw1
      simp [Value.cells] at eS
      subst eS
      exact ⟨S, c1, T, rfl, hP, hl, hl2⟩
theorem within_first {H : Type} {P : Program} {t : TypeId} {ts : List TypeId} {d : DataW H} {ds : List (DataW H)} (h : (DataW.weightsEach P (t :: ts) (d :: ds)).all (· ≤ reachBytes) = true) : Within P t d := fun n hn => by
  have := List.all_eq_true.1 h n (by simp only [DataW.weightsEach, List.mem_append]; exact .inl hn)
  simpa using this
end Go.Proofs.YteojbnkjphghkaaDoor
