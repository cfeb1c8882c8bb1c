/-
  Forests as an argument.
-/
import Derived.Test.YteoglnbmmgoibaaGreatDoorForest
import Derived.Test.YteoglnbmmgoibaaGreatDoorPost
import Derived.Deep.Slices
import Derived.Deep.Fields
import Derived.ChangeMaps5
namespace Go.Proofs.YteoglnbmmgoibaaGreatDoor
open Go.ChangeMaps Go.ChangeShapes Go.WideShapes Go.ChangeAt Go.RowKit Go.Deep
set_option linter.unusedVariables false
set_option linter.unusedSimpArgs false
theorem intT : Tryz.prog.underlying 3 = some (.int .i64) := by kernel_rfl
theorem factFields : ∃ f0 f1 f2 : Field, Tryz.prog.underlying 33 = some (.struct #[f0, f1, f2]) ∧ f0.type = 3 ∧ f1.type = 3 ∧ f2.type = 3 ∧ f0.offset = 0 ∧ f1.offset = 1 ∧ f2.offset = 2 := ⟨_, _, _, Tryz.underlying33, rfl, rfl, rfl, rfl, rfl, rfl⟩
theorem packFields : ∃ f0 f1 f2 f3 f4 : Field, Tryz.prog.underlying 42 = some (.struct #[f0, f1, f2, f3, f4]) ∧ f0.type = 3 ∧ f1.type = 3 ∧ f2.type = 3 ∧ f3.type = 3 ∧ f4.type = 3 ∧ f0.offset = 0 ∧ f1.offset = 1 ∧ f2.offset = 2 ∧ f3.offset = 3 ∧ f4.offset = 4 := ⟨_, _, _, _, _, Tryz.underlying42, rfl, rfl, rfl, rfl, rfl, rfl, rfl, rfl, rfl, rfl⟩
theorem forestFields : ∃ f0 f1 : Field, Tryz.prog.underlying 25 = some (.struct #[f0, f1]) ∧ f0.type = 22 ∧ f1.type = 23 ∧ f0.offset = 0 ∧ f1.offset = 1 := ⟨_, _, Tryz.underlying25, rfl, rfl, rfl, rfl⟩
theorem factCells : Tryz.prog.cellsOf 33 = 3 := by kernel_rfl
theorem packCells : Tryz.prog.cellsOf 42 = 5 := by kernel_rfl
theorem forestCells : Tryz.prog.cellsOf 25 = 2 := by kernel_rfl
theorem intCells : Tryz.prog.cellsOf 3 = 1 := by kernel_rfl
theorem factsCells : Tryz.prog.cellsOf 22 = 1 := by kernel_rfl
theorem packsCells : Tryz.prog.cellsOf 23 = 1 := by kernel_rfl
theorem factBytes : Tryz.prog.bytesOf 33 = 24 := by kernel_rfl
theorem packBytes : Tryz.prog.bytesOf 42 = 40 := by kernel_rfl
/-- Every list within the datum is within reach. -/
def Within {H : Type} (P : Program) (t : TypeId) (d : DataW H) : Prop := ∀ n ∈ d.weights P t, n ≤ reachBytes
theorem within_part {H : Type} {P : Program} {t : TypeId} {fs : Array Field} {parts : List (DataW H)} (ht : P.underlying t = some (.struct fs)) (h : Within P t (.agg parts)) {i : Nat} {f : Field} {x : DataW H} (hf : fs[i]? = some f) (hx : parts[i]? = some x) : Within P f.type x := fun n hn => by
  refine h n ?_
  simp only [DataW.weights, ht]
  exact DataW.weights_mem_each (j := i) (by simp [hf]) hx n hn
theorem weights_all {H : Type} {P : Program} {e : TypeId} {l : List (DataW H)} {d : DataW H} (hd : d ∈ l) {n : Nat} (hn : n ∈ d.weights P e) : n ∈ DataW.weightsAll P e l := by
  induction l with
  | nil => cases hd
  | cons x r ih =>
    simp only [DataW.weightsAll, List.mem_append]
    rcases List.mem_cons.1 hd with rfl | h
    · exact .inl hn
    · exact .inr (ih h)
theorem within_slice {H : Type} {P : Program} {t e : TypeId} {elems spare : List (DataW H)} (ht : P.underlying t = some (.slice e)) (h : Within P t (.slice elems spare)) : elems.length * P.bytesOf e ≤ reachBytes ∧ ∀ d ∈ elems, Within P e d := by
  constructor
  · have := h ((elems.length + spare.length) * P.bytesOf e) (by simp [DataW.weights, ht])
    rw [Nat.add_mul] at this
    omega
  · intro d hd n hn
    refine h n ?_
    simp only [DataW.weights, ht, List.mem_cons, List.mem_append]
    exact .inr (.inl (weights_all hd hn))
theorem flat_get' {α : Type} (f : α → List Value) (k : Nat) (hf : ∀ x, (f x).length = k) (l : List α) {j : Nat} {u : Value} (h : (l.flatMap f)[j]? = some u) : ∃ i r x, l[i]? = some x ∧ r < k ∧ j = i * k + r ∧ (f x)[r]? = some u := by
  have hj := (List.getElem?_eq_some_iff.1 h).1
  rw [flat_len f k hf] at hj
  have hk : 0 < k := by
    rcases Nat.eq_zero_or_pos k with h | h
    · subst h; omega
    · exact h
  have hi : j / k < l.length := Nat.div_lt_of_lt_mul (by rw [Nat.mul_comm]; exact hj)
  have hr : j % k < k := Nat.mod_lt _ hk
  have e : j = j / k * k + j % k := by rw [Nat.mul_comm]; exact (Nat.div_add_mod j k).symm
  have hx := List.getElem?_eq_getElem hi
  refine ⟨j / k, j % k, l[j / k], hx, hr, e, ?_⟩
  rw [← flat_get f k hf l _ _ _ hx hr, ← e]
  exact h
section
variable {H : Type} {enc : TypeId × Value → H} {w : World} {base : Nat} {held : Bool} {fuel : Nat} {x : DataW H × List MemPlace}
theorem block_lt {a : Addr} {v : Value} (h : w.cell? a = some v) : a.block < w.heap.size := World.block_lt_of_cell? w _ h
theorem src_made {α : Type} {f : α → List Value} {k : Nat} (hf : ∀ x, (f x).length = k) {a : Addr} {c : Nat} {l : List α} (h : ∀ i x, l[i]? = some x → ∀ r u, (f x)[r]? = some u → w.cell? (a.add (i * k + r)) = some u) : Src w k (.slice (some a) l.length c) l.length (l.flatMap f) := by
  refine ⟨flat_len f k hf l, .inr ⟨a, c, rfl, fun j u hu => ?_⟩⟩
  obtain ⟨i, r, y, hy, hr, rfl, hu'⟩ := flat_get' f k hf l hu
  have := h i y hy r u hu'
  exact ⟨by have := block_lt this; rwa [add_block] at this, this⟩
set_option maxRecDepth 100000
theorem open_facts {c : Value} (hc : ∃ a n cap, c = .slice a n cap) (h : DataW.trod enc Tryz.prog w base (fun _ => true) held fuel 22 [c] = some x) (hw : Within Tryz.prog 22 x.1) : ∃ l, Facts w c l ∧ l.length * 24 ≤ 140737488351232 := by
  obtain ⟨a0, len0, cap0, rfl⟩ := hc
  obtain ⟨s0, s1, s2, hs, u0, u1, u2, p0, p1, p2⟩ := factFields
  rcases Go.Deep.open_slice Tryz.underlying22 h with ⟨hc, _⟩ | ⟨a, len, cap, m, n, D, Pl, hc, hb, hl, hm, hmm, hx, hi⟩
  · simp only [List.cons.injEq, Value.slice.injEq, and_true] at hc
    obtain ⟨rfl, rfl, rfl⟩ := hc
    exact ⟨[], Src.nil _ _, by simp⟩
  · simp only [List.cons.injEq, Value.slice.injEq, and_true] at hc
    obtain ⟨rfl, rfl, rfl⟩ := hc
    rw [factCells] at hi
    subst hx
    obtain ⟨hr, _⟩ := within_slice Tryz.underlying22 hw
    rw [factBytes, List.length_map, List.length_range] at hr
    have hlm : len0 ≤ m := by rw [hmm]; split <;> omega
    have hi' : ∀ i, ∃ s : Fc, i < len0 → w.cell? (a.add (i * 3)) = some (.int .i64 s.1) ∧ w.cell? (a.add (i * 3 + 1)) = some (.int .i64 s.2.1) ∧ w.cell? (a.add (i * 3 + 2)) = some (.int .i64 s.2.2) := by
      intro i
      by_cases hil : i < len0
      · obtain ⟨cs', h1, h2⟩ := hi i (by omega)
        obtain ⟨_, hlen, hcell⟩ := World.cells?_some h1
        match cs', hlen with
        | [c0, c1, c2], _ =>
          obtain ⟨xs, n', hn', hD, _, hxl, hfld⟩ := DataW.trod_struct hs h2
          have q0 := hfld 0 s0 rfl
          have q1 := hfld 1 s1 rfl
          have q2 := hfld 2 s2 rfl
          rw [p0, u0, intCells] at q0
          rw [p1, u1, intCells] at q1
          rw [p2, u2, intCells] at q2
          match xs, hxl with
          | [x0, x1, x2], _ =>
            obtain ⟨y0, ey0, _, wy0⟩ := DataW.trod_int intT q0
            obtain ⟨y1, ey1, _, wy1⟩ := DataW.trod_int intT q1
            obtain ⟨y2, ey2, _, wy2⟩ := DataW.trod_int intT q2
            simp at ey0 ey1 ey2
            have k0 := hcell 0 (by omega)
            have k1 := hcell 1 (by omega)
            have k2 := hcell 2 (by omega)
            rw [Go.Deep.add_add] at k0 k1 k2
            exact ⟨(y0, y1, y2), fun _ => ⟨by rw [Nat.add_zero] at k0; rw [k0, ey0]; rfl, by rw [k1, ey1]; rfl, by rw [k2, ey2]; rfl⟩⟩
      · exact ⟨(0, 0, 0), fun h => absurd h hil⟩
    obtain ⟨g, hg⟩ := Classical.axiomOfChoice hi'
    have hlen : ((List.range len0).map g).length = len0 := by simp
    refine ⟨(List.range len0).map g, ?_, by rw [hlen]; unfold reachBytes at hr; omega⟩
    have := src_made (w := w) (f := fcell) (k := 3) (fun _ => rfl) (a := a) (c := cap0) (l := (List.range len0).map g) (fun i s hs r u hu => by
      have hil : i < len0 := by have := (List.getElem?_eq_some_iff.1 hs).1; rwa [hlen] at this
      obtain ⟨k0, k1, k2⟩ := hg i hil
      have e : g i = s := by rw [List.getElem?_map, List.getElem?_range hil] at hs; exact Option.some.inj hs
      rw [e] at k0 k1 k2
      match r, hu with
      | 0, hu => simp [fcell] at hu; subst hu; exact k0
      | 1, hu => simp [fcell] at hu; subst hu; exact k1
      | 2, hu => simp [fcell] at hu; subst hu; exact k2
      | r + 3, hu => simp [fcell] at hu)
    rw [hlen] at this
    show Src w 3 _ _ _
    rw [hlen]
    exact this
theorem open_packs {c : Value} (hc : ∃ a n cap, c = .slice a n cap) (h : DataW.trod enc Tryz.prog w base (fun _ => true) held fuel 23 [c] = some x) (hw : Within Tryz.prog 23 x.1) : ∃ l, Packs w c l ∧ l.length * 40 ≤ 140737488351232 := by
  obtain ⟨a0, len0, cap0, rfl⟩ := hc
  obtain ⟨s0, s1, s2, s3, s4, hs, u0, u1, u2, u3, u4, p0, p1, p2, p3, p4⟩ := packFields
  rcases Go.Deep.open_slice Tryz.underlying23 h with ⟨hc, _⟩ | ⟨a, len, cap, m, n, D, Pl, hc, hb, hl, hm, hmm, hx, hi⟩
  · simp only [List.cons.injEq, Value.slice.injEq, and_true] at hc
    obtain ⟨rfl, rfl, rfl⟩ := hc
    exact ⟨[], Src.nil _ _, by simp⟩
  · simp only [List.cons.injEq, Value.slice.injEq, and_true] at hc
    obtain ⟨rfl, rfl, rfl⟩ := hc
    rw [packCells] at hi
    subst hx
    obtain ⟨hr, _⟩ := within_slice Tryz.underlying23 hw
    rw [packBytes, List.length_map, List.length_range] at hr
    have hlm : len0 ≤ m := by rw [hmm]; split <;> omega
    have hi' : ∀ i, ∃ s : Pk, i < len0 → w.cell? (a.add (i * 5)) = some (.int .i64 s.1) ∧ w.cell? (a.add (i * 5 + 1)) = some (.int .i64 s.2.1) ∧ w.cell? (a.add (i * 5 + 2)) = some (.int .i64 s.2.2.1) ∧ w.cell? (a.add (i * 5 + 3)) = some (.int .i64 s.2.2.2.1) ∧ w.cell? (a.add (i * 5 + 4)) = some (.int .i64 s.2.2.2.2) := by
      intro i
      by_cases hil : i < len0
      · obtain ⟨cs', h1, h2⟩ := hi i (by omega)
        obtain ⟨_, hlen, hcell⟩ := World.cells?_some h1
        match cs', hlen with
        | [c0, c1, c2, c3, c4], _ =>
          obtain ⟨xs, n', hn', hD, _, hxl, hfld⟩ := DataW.trod_struct hs h2
          have q0 := hfld 0 s0 rfl
          have q1 := hfld 1 s1 rfl
          have q2 := hfld 2 s2 rfl
          have q3 := hfld 3 s3 rfl
          have q4 := hfld 4 s4 rfl
          rw [p0, u0, intCells] at q0
          rw [p1, u1, intCells] at q1
          rw [p2, u2, intCells] at q2
          rw [p3, u3, intCells] at q3
          rw [p4, u4, intCells] at q4
          match xs, hxl with
          | [x0, x1, x2, x3, x4], _ =>
            obtain ⟨y0, ey0, _, wy0⟩ := DataW.trod_int intT q0
            obtain ⟨y1, ey1, _, wy1⟩ := DataW.trod_int intT q1
            obtain ⟨y2, ey2, _, wy2⟩ := DataW.trod_int intT q2
            obtain ⟨y3, ey3, _, wy3⟩ := DataW.trod_int intT q3
            obtain ⟨y4, ey4, _, wy4⟩ := DataW.trod_int intT q4
            simp at ey0 ey1 ey2 ey3 ey4
            have k0 := hcell 0 (by omega)
            have k1 := hcell 1 (by omega)
            have k2 := hcell 2 (by omega)
            have k3 := hcell 3 (by omega)
            have k4 := hcell 4 (by omega)
            rw [Go.Deep.add_add] at k0 k1 k2 k3 k4
            exact ⟨(y0, y1, y2, y3, y4), fun _ => ⟨by rw [Nat.add_zero] at k0; rw [k0, ey0]; rfl, by rw [k1, ey1]; rfl, by rw [k2, ey2]; rfl, by rw [k3, ey3]; rfl, by rw [k4, ey4]; rfl⟩⟩
      · exact ⟨(0, 0, 0, 0, 0), fun h => absurd h hil⟩
    obtain ⟨g, hg⟩ := Classical.axiomOfChoice hi'
    have hlen : ((List.range len0).map g).length = len0 := by simp
    refine ⟨(List.range len0).map g, ?_, by rw [hlen]; unfold reachBytes at hr; omega⟩
    have := src_made (w := w) (f := pcell) (k := 5) (fun _ => rfl) (a := a) (c := cap0) (l := (List.range len0).map g) (fun i s hs r u hu => by
      have hil : i < len0 := by have := (List.getElem?_eq_some_iff.1 hs).1; rwa [hlen] at this
      obtain ⟨k0, k1, k2, k3, k4⟩ := hg i hil
      have e : g i = s := by rw [List.getElem?_map, List.getElem?_range hil] at hs; exact Option.some.inj hs
      rw [e] at k0 k1 k2 k3 k4
      match r, hu with
      | 0, hu => simp [pcell] at hu; subst hu; exact k0
      | 1, hu => simp [pcell] at hu; subst hu; exact k1
      | 2, hu => simp [pcell] at hu; subst hu; exact k2
      | 3, hu => simp [pcell] at hu; subst hu; exact k3
      | 4, hu => simp [pcell] at hu; subst hu; exact k4
      | r + 5, hu => simp [pcell] at hu)
    rw [hlen] at this
    show Src w 5 _ _ _
    rw [hlen]
    exact this
end
set_option maxRecDepth 100000 in
theorem open_forest {H : Type} {enc : TypeId × Value → H} {w : World} {base : Nat} {r : Reach} {b0 : Nat} {v : Value} {d : DataW H} {ps : List MemPlace} (hv : Value.okWide Tryz.prog w r b0 25 v)
    (h : DataW.Trod enc Tryz.prog w base (fun _ => true) true 25 v d ps) (hw : Within Tryz.prog 25 d) : ∃ fv pv F P, v = .agg #[fv, pv] ∧ Facts w fv F ∧ Packs w pv P ∧ F.length * 24 ≤ 140737488351232 ∧ P.length * 40 ≤ 140737488351232 := by
  obtain ⟨f0, f1, hs, t0, t1, o0, o1⟩ := forestFields
  obtain ⟨cs, rfl, hsz⟩ := okWide_struct hs hv
  rw [forestCells] at hsz
  obtain ⟨fuel, hf⟩ := h
  match cs, hsz with
  | ⟨[c0, c1]⟩, _ =>
    obtain ⟨xs, n', hn', hD, _, hxl, hfld⟩ := DataW.trod_struct hs hf
    have g0 := hfld 0 f0 rfl
    have g1 := hfld 1 f1 rfl
    rw [o0, t0, factsCells] at g0
    rw [o1, t1, packsCells] at g1
    match xs, hxl with
    | [x0, x1], _ =>
      have e0 : ∃ a n cap, c0 = .slice a n cap := by
        rcases Go.Deep.open_slice Tryz.underlying22 g0 with ⟨hc, _⟩ | ⟨a, len, cap, m, n, D, Pl, hc, _⟩
        · simp [Value.cells] at hc; exact ⟨_, _, _, hc⟩
        · simp [Value.cells] at hc; exact ⟨_, _, _, hc⟩
      have e1 : ∃ a n cap, c1 = .slice a n cap := by
        rcases Go.Deep.open_slice Tryz.underlying23 g1 with ⟨hc, _⟩ | ⟨a, len, cap, m, n, D, Pl, hc, _⟩
        · simp [Value.cells] at hc; exact ⟨_, _, _, hc⟩
        · simp [Value.cells] at hc; exact ⟨_, _, _, hc⟩
      have hD1 : d = .agg [x0.1, x1.1] := by have := congrArg Prod.fst hD; simpa using this
      rw [hD1] at hw
      have hw0 : Within Tryz.prog 22 x0.1 := t0 ▸ within_part hs hw (i := 0) (f := f0) rfl rfl
      have hw1 : Within Tryz.prog 23 x1.1 := t1 ▸ within_part hs hw (i := 1) (f := f1) rfl rfl
      obtain ⟨F, hF, hl⟩ := open_facts e0 (by simpa [Value.cells] using g0) hw0
      obtain ⟨P, hP, hl2⟩ := open_packs e1 (by simpa [Value.cells] using g1) hw1
      exact ⟨c0, c1, F, P, rfl, hF, hP, hl, hl2⟩
theorem within_first {H : Type} {P : Program} {t : TypeId} {ts : List TypeId} {d : DataW H} {ds : List (DataW H)} (h : (DataW.weightsEach P (t :: ts) (d :: ds)).all (· ≤ reachBytes) = true) : Within P t d := fun n hn => by
  have := List.all_eq_true.1 h n (by simp only [DataW.weightsEach, List.mem_append]; exact .inl hn)
  simpa using this
end Go.Proofs.YteoglnbmmgoibaaGreatDoor
