/-
  Sixteen lists of pieces under way, each in a row of its own; what a product of matrices is, piece by piece.
-/
import Derived.Test.YtjolkhiggcmoiaaGreatDoorQLine
import Derived.Test.YtjolkhiggcmoiaaGreatDoorQTm
namespace Go.Proofs.YtjolkhiggcmoiaaGreatDoor
open Go.RowKit Go.Shelf
set_option linter.unusedVariables false
set_option linter.unusedSimpArgs false
/-! ### The pure side -/
/-- A product's cells. -/
def mulM (A B : Nat → Nat → Bool) : Nat → Nat → Bool := fun r c => (List.range 1024).any fun t => A r t && B t c
theorem mulM_iff {A B : Nat → Nat → Bool} {side : Nat} (hs : side ≤ 1024) (hw : ∀ r c, A r c = true → r < side ∧ c < side) {r c : Nat} : mulM A B r c = true ↔ ∃ t, A r t = true ∧ B t c = true := by
  unfold mulM
  rw [List.any_eq_true]
  constructor
  · rintro ⟨t, _, h⟩
    rw [Bool.and_eq_true] at h
    exact ⟨t, h⟩
  · rintro ⟨t, h1, h2⟩
    exact ⟨t, List.mem_range.2 (by have := (hw _ _ h1).2; omega), by rw [h1, h2]; rfl⟩
theorem mulM_within {A B : Nat → Nat → Bool} {side : Nat} (hs : side ≤ 1024) (ha : ∀ r c, A r c = true → r < side ∧ c < side) (hb : ∀ r c, B r c = true → r < side ∧ c < side) : ∀ r c, mulM A B r c = true → r < side ∧ c < side := fun r c h => by
  obtain ⟨t, h1, h2⟩ := (mulM_iff hs ha).1 h
  exact ⟨(ha _ _ h1).1, (hb _ _ h2).2⟩
/-- The places of a row of blocks. -/
def rowP (pre : List (Nat × Nat)) (a : Nat) : List (Nat × Nat) := pre.filter fun p => decide (p.1 = a)
theorem rowP_app (pre : List (Nat × Nat)) (y : Nat × Nat) : rowP (pre ++ [y]) = updL (rowP pre) y.1 y := by
  funext a
  unfold rowP updL
  rw [List.filter_append]
  by_cases e : a = y.1
  · subst e; simp
  · have : ¬ y.1 = a := fun h => e h.symm
    simp [e, this]
theorem mem_rowP {pre : List (Nat × Nat)} {a : Nat} {p : Nat × Nat} : p ∈ rowP pre a ↔ p ∈ pre ∧ p.1 = a := by unfold rowP; simp
theorem rowP_len (pre : List (Nat × Nat)) (a : Nat) : (rowP pre a).length ≤ pre.length := List.length_filter_le _ _
/-- What a piece brings. -/
def addM (A B : Nat → Nat → Bool) (y : Nat × Nat) (N : Nat → Nat → Bool) (p : Nat × Nat) : Nat → Nat → Bool := orM N y.1 p.2 (blk (mulS (blk (sub A y.1 y.2)) (blk (sub B p.1 p.2))))
def prodP (A B : Nat → Nat → Bool) (R : Nat → List (Nat × Nat)) (pre : List (Nat × Nat)) : Nat → Nat → Bool := pre.foldl (fun N y => (R y.2).foldl (addM A B y) N) fun _ _ => false
theorem prodP_app (A B : Nat → Nat → Bool) (R : Nat → List (Nat × Nat)) (pre : List (Nat × Nat)) (y : Nat × Nat) : prodP A B R (pre ++ [y]) = (R y.2).foldl (addM A B y) (prodP A B R pre) := by unfold prodP; rw [List.foldl_append]; rfl
theorem foldM_step (A B : Nat → Nat → Bool) (y : Nat × Nat) (N : Nat → Nat → Bool) {l : List (Nat × Nat)} {j : Nat} {p : Nat × Nat} (h : l[j]? = some p) : (l.take (j + 1)).foldl (addM A B y) N = addM A B y ((l.take j).foldl (addM A B y) N) p := by
  rw [List.take_add_one, h, List.foldl_append]; rfl
theorem foldM_iff {A B : Nat → Nat → Bool} {y : Nat × Nat} {r c : Nat} : ∀ {l : List (Nat × Nat)} {N : Nat → Nat → Bool}, (l.foldl (addM A B y) N) r c = true ↔ N r c = true ∨ ∃ p ∈ l, r / 64 = y.1 ∧ c / 64 = p.2 ∧ mulS (blk (sub A y.1 y.2)) (blk (sub B p.1 p.2)) (r % 64) (c % 64) = true
  | [], N => by simp
  | p :: l, N => by
    rw [List.foldl_cons, foldM_iff]
    have : addM A B y N p r c = true ↔ N r c = true ∨ (r / 64 = y.1 ∧ c / 64 = p.2 ∧ mulS (blk (sub A y.1 y.2)) (blk (sub B p.1 p.2)) (r % 64) (c % 64) = true) := by
      unfold addM orM
      rw [Bool.or_eq_true, Bool.and_eq_true, Bool.and_eq_true, decide_eq_true_eq, decide_eq_true_eq, bt_blk _ _ _ (Nat.mod_lt _ (by decide)), and_assoc]
    rw [this]
    constructor
    · rintro ((h | h) | ⟨q, hq, h⟩)
      · exact .inl h
      · exact .inr ⟨p, List.mem_cons_self .., h⟩
      · exact .inr ⟨q, List.mem_cons_of_mem _ hq, h⟩
    · rintro (h | ⟨q, hq, h⟩)
      · exact .inl (.inl h)
      · rcases List.mem_cons.1 hq with rfl | hq
        · exact .inl (.inr h)
        · exact .inr ⟨q, hq, h⟩
theorem prodP_iff {A B : Nat → Nat → Bool} {R : Nat → List (Nat × Nat)} {r c : Nat} : ∀ {pre : List (Nat × Nat)} {N : Nat → Nat → Bool}, (pre.foldl (fun N y => (R y.2).foldl (addM A B y) N) N) r c = true ↔ N r c = true ∨ ∃ y ∈ pre, ∃ p ∈ R y.2, r / 64 = y.1 ∧ c / 64 = p.2 ∧ mulS (blk (sub A y.1 y.2)) (blk (sub B p.1 p.2)) (r % 64) (c % 64) = true
  | [], N => by simp
  | y :: pre, N => by
    rw [List.foldl_cons, prodP_iff, foldM_iff]
    constructor
    · rintro ((h | ⟨p, hp, h⟩) | ⟨z, hz, h⟩)
      · exact .inl h
      · exact .inr ⟨y, List.mem_cons_self .., p, hp, h⟩
      · exact .inr ⟨z, List.mem_cons_of_mem _ hz, h⟩
    · rintro (h | ⟨z, hz, h⟩)
      · exact .inl (.inl h)
      · rcases List.mem_cons.1 hz with rfl | hz
        · exact .inl (.inr h)
        · exact .inr ⟨z, hz, h⟩
theorem place_in {M : Nat → Nat → Bool} {side r c : Nat} (hw : ∀ r c, M r c = true → r < side ∧ c < side) (h : M r c = true) : (r / 64, c / 64) ∈ placesL M side := by
  obtain ⟨h1, h2⟩ := hw _ _ h
  refine mem_placesL.2 ⟨?_, ?_, nzB_iff.2 ⟨r % 64, c % 64, Nat.mod_lt _ (by decide), Nat.mod_lt _ (by decide), ?_⟩⟩
  · unfold lns; show r / 64 < _; omega
  · unfold lns; show c / 64 < _; omega
  · unfold sub
    show M (64 * (r / 64) + r % 64) (64 * (c / 64) + c % 64) = true
    rw [Nat.div_add_mod, Nat.div_add_mod]
    exact h
theorem prod_mul {A B : Nat → Nat → Bool} {side : Nat} (hs : side ≤ 1024) (ha : ∀ r c, A r c = true → r < side ∧ c < side) (hb : ∀ r c, B r c = true → r < side ∧ c < side) : ∀ r c, prodP A B (rowP (placesL B side)) (placesL A side) r c = mulM A B r c := fun r c => by
  rw [Bool.eq_iff_iff, mulM_iff hs ha]
  unfold prodP
  rw [prodP_iff]
  constructor
  · rintro (h | ⟨y, hy, p, hp, h1, h2, h3⟩)
    · cases h
    · obtain ⟨hp, hp1⟩ := mem_rowP.1 hp
      unfold mulS at h3
      rw [List.any_eq_true] at h3
      obtain ⟨k, hk, h3⟩ := h3
      have hk := List.mem_range.1 hk
      rw [Bool.and_eq_true, bt_blk _ _ _ hk, bt_blk _ _ _ (Nat.mod_lt _ (by decide))] at h3
      unfold sub at h3
      refine ⟨64 * y.2 + k, ?_, ?_⟩
      · rw [← h1, Nat.div_add_mod] at h3; exact h3.1
      · rw [← h2, Nat.div_add_mod, hp1] at h3; exact h3.2
  · rintro ⟨t, h1, h2⟩
    refine .inr ⟨(r / 64, t / 64), place_in ha h1, (t / 64, c / 64), mem_rowP.2 ⟨place_in hb h2, rfl⟩, rfl, rfl, ?_⟩
    unfold mulS
    rw [List.any_eq_true]
    refine ⟨t % 64, List.mem_range.2 (Nat.mod_lt _ (by decide)), ?_⟩
    rw [bt_blk _ _ _ (Nat.mod_lt _ (by decide)), bt_blk _ _ _ (Nat.mod_lt _ (by decide))]
    unfold sub
    rw [Nat.div_add_mod, Nat.div_add_mod, Nat.div_add_mod, h1, h2]
    rfl
/-- What a piece brings lies within. -/
theorem piece_within {A B : Nat → Nat → Bool} {side : Nat} (ha : ∀ r c, A r c = true → r < side ∧ c < side) (hb : ∀ r c, B r c = true → r < side ∧ c < side) {y p : Nat × Nat} : ∀ r c, r < 64 → c < 64 → bt (blk (mulS (blk (sub A y.1 y.2)) (blk (sub B p.1 p.2)))) r c = true → 64 * y.1 + r < side ∧ 64 * p.2 + c < side := fun r c hr hc h => by
  rw [bt_blk _ _ _ hc] at h
  unfold mulS at h
  rw [List.any_eq_true] at h
  obtain ⟨k, hk, h⟩ := h
  have hk := List.mem_range.1 hk
  rw [Bool.and_eq_true, bt_blk _ _ _ hk, bt_blk _ _ _ hc] at h
  exact ⟨(ha _ _ h.1).1, (hb _ _ h.2).2⟩
/-! ### In memory -/
/-- Sixteen values. -/
def Wq (V : Nat → Value) : Array Value := Array.ofFn (n := 16) fun i => V i.val
theorem Wq_size (V : Nat → Value) : (Wq V).size = 16 := by simp [Wq]
theorem Wq_get (V : Nat → Value) (i : Nat) (h : i < 16) : (Wq V)[i]? = some (V i) := by simp [Wq, h]
theorem Wq_set (V : Nat → Value) (r : Nat) (v : Value) (hr : r < 16) : (Wq V).setIfInBounds r v = Wq (updV V r v) := by
  apply Array.ext_getElem?
  intro i
  rw [Array.getElem?_setIfInBounds]
  by_cases hi : i < 16
  · by_cases e : r = i
    · subst e; rw [Wq_get (updV V r v) r hr]; simp only [updV, Wq_size, hr, if_true]
    · have : ¬ i = r := fun h => e h.symm
      rw [Wq_get V i hi, Wq_get (updV V r v) i hi]
      simp [updV, e, this]
  · have : ¬ r = i := by omega
    rw [if_neg this, Array.getElem?_eq_none (by rw [Wq_size]; omega), Array.getElem?_eq_none (by rw [Wq_size]; omega)]
theorem pRowsZero : (Tryz.prog.info? 182).map (fun i => (i.zero, i.size)) = some (some (.agg (Wq fun _ => .slice none 0 0)), 16) := by kernel_rfl
theorem pieceInfo : (Tryz.prog.info? 187).map (fun i => (i.zero, i.size, i.bytes)) = some (some (.agg (spt 0 0 fun _ => 0)), 66, 528) := by kernel_rfl
theorem pieceSize : (Tryz.prog.info? 187).map (·.size) = some 66 := by kernel_rfl
theorem pieceZero : (Tryz.prog.info? 187).map (fun i => (i.zero, i.size)) = some (some (.agg (spt 0 0 fun _ => 0)), 66) := by kernel_rfl
attribute [irreducible] Wq
structure PR (B bR : Nat) (V : Nat → Value) (L : Nat → List (Nat × Nat)) (M : Nat → Nat → Bool) (W : World) : Prop where
  box : Bk W bR 182 (Wq V)
  row : ∀ a, a < 16 → W.ownsRow B 187 66 (V a) (L a).length (srows M (L a)).flatten
  dist : ∀ a a', a < 16 → a' < 16 → a ≠ a' → ∀ k, (V a).ownBlock = some k → (V a').ownBlock ≠ some k
section
variable {B bR : Nat} {V : Nat → Value} {L : Nat → List (Nat × Nat)} {M : Nat → Nat → Bool} {A W : World}
theorem PR.at (h : PR B bR V L M W) {a : Nat} (ha : a < 16) : W.cell? ⟨bR, a, none⟩ = some (V a) := (h.box.cell a).trans (Wq_get V a ha)
theorem PR.kept {F : Nat → Prop} (h : PR B bR V L M A) (hf : Far F A W) (hF : ∀ k, F k → ∀ o : Obj, A.heap[k]? = some o → ∀ cs t, (t = 182 ∨ t = 187) → o ≠ .cells cs t (0, 0)) : PR B bR V L M W :=
  ⟨h.box.far' hf fun q => hF _ q _ h.box _ _ (.inl rfl) rfl, fun a ha => row_same (h.row a ha) fun k hk hl => hf.block k hl fun q => by
    obtain ⟨_, _, cs, hb⟩ := own_type (h.row a ha) hk
    exact hF _ q _ hb _ _ (.inr rfl) rfl, h.dist⟩
theorem PR.still (h : PR B bR V L M A) (hf : Far (fun _ => False) A W) : PR B bR V L M W := h.kept hf fun _ q => q.elim
theorem PR.grown {row : Option Nat} (h : PR B bR V L M A) (hg : A.grownBy W row) (hr : ∀ r, row = some r → ∃ o : Obj, A.heap[r]? = some o ∧ o.isCells = false) : PR B bR V L M W :=
  h.kept (grown_F hg) fun k q o ho cs t _ e => by
    obtain ⟨o', ho', hc⟩ := hr k q
    rw [ho] at ho'
    cases ho'
    subst e
    cases hc
theorem PR.push {W5 : World} {r : Nat} {v : Value} {x : Nat × Nat} (h : PR B bR V L M A) (hr : r < 16) (hown : W5.ownsRow B 187 66 v ((L r).length + 1) ((srows M (L r)).flatten ++ srow M x)) (hg : A.grownBy W5 (V r).ownBlock)
    (hat : ∀ g, v.ownBlock = some g → (V r).ownBlock = some g ∨ A.heap.size ≤ g) :
    PR B bR (updV V r v) (updL L r x) M (W5.setCell ⟨bR, r, none⟩ v) := by
  have nR : some bR ≠ (V r).ownBlock := fun e => q_row_ne h.box (h.row r hr) (by decide) e.symm
  have b5 := qb_grown h.box hg nR
  have b6 : Bk (W5.setCell ⟨bR, r, none⟩ v) bR 182 (Wq (updV V r v)) := by
    have := b5.set r v
    rw [Wq_set V r v hr] at this
    exact this
  have hS : Far (fun k => k = bR) W5 (W5.setCell ⟨bR, r, none⟩ v) := (Far.refl (fun k => k = bR) W5).set ⟨bR, r, none⟩ _ fun _ => rfl
  refine ⟨b6, fun a ha => ?_, fun a a' ha ha' hne k h1 h2 => ?_⟩
  · by_cases e : a = r
    · subst e
      simp only [updV, updL, if_true]
      rw [List.length_append, List.length_singleton, srows_app]
      exact row_same hown fun k hk hl => hS.block k hl fun e => q_row_ne b5 hown (by decide) (e ▸ hk)
    · simp only [updV, updL, e, if_false]
      have h1 := h.row a ha
      have h5 : W5.ownsRow B 187 66 (V a) (L a).length (srows M (L a)).flatten := row_same h1 fun k hk hl => hg.block k hl fun e2 => h.dist a r ha hr e k hk e2.symm
      exact row_same h5 fun k hk hl => hS.block k hl fun e => q_row_ne b5 h5 (by decide) (e ▸ hk)
  · by_cases e : a = r
    · subst e
      have e' : ¬ a' = a := fun h => hne h.symm
      simp only [updV, if_true, e', if_false] at h1 h2
      rcases hat k h1 with h3 | h3
      · exact h.dist a a' ha ha' hne k h3 h2
      · have := ((h.row a' ha').lt k h2).2
        omega
    · by_cases e2 : a' = r
      · subst e2
        simp only [updV, if_true, e, if_false] at h1 h2
        rcases hat k h2 with h3 | h3
        · exact h.dist a a' ha ha' hne k h1 h3
        · have := ((h.row a ha).lt k h1).2
          omega
      · simp only [updV, e, e2, if_false] at h1 h2
        exact h.dist a a' ha ha' hne k h1 h2
end
/-! ### Pieces -/
theorem piece_places : (match Tryz.prog.info? 187, Tryz.prog.underlying 187 with
  | some it, some (.struct fields) => (match it.zero, fields.toList.mapM (fun f => (Tryz.prog.info? f.type).map fun i => (f.offset, i.size)) with
      | some z, some places => some (z.cells.size, places) | _, _ => none)
  | _, _ => none) = some (66, [(0, 2), (2, 64)]) := by kernel_rfl
theorem piece_built (i j : Nat) (f : Nat → Nat) : Tryz.prog.built 187 [(0, .agg #[.int .i64 (i : Nat), .int .i64 (j : Nat)]), (1, .agg (Rw f))] = some (spt i j f) := by
  have h := piece_places
  unfold Program.built
  cases h1 : Tryz.prog.info? 187 with
  | none => rw [h1] at h; cases h
  | some it =>
    rw [h1] at h
    cases h2 : Tryz.prog.underlying 187 with
    | none => rw [h2] at h; cases h
    | some d =>
      rw [h2] at h
      cases d with
      | struct fields =>
        simp only at h ⊢
        cases h3 : it.zero with
        | none => rw [h3] at h; cases h
        | some z =>
          rw [h3] at h
          cases h4 : fields.toList.mapM (fun f => (Tryz.prog.info? f.type).map fun i => (f.offset, i.size)) with
          | none => rw [h4] at h; cases h
          | some places =>
            rw [h4] at h
            simp only [Option.some.injEq, Prod.mk.injEq] at h ⊢
            obtain ⟨hs, rfl⟩ := h
            exact fill_two _ _ _ _ 2 64 rfl (Rw_size f) hs rfl rfl
      | _ => cases h
theorem piece_range {w : World} {g o i j : Nat} {f : Nat → Nat} (h : w.rangeAt g o (spt i j f).toList) : (loadVar 187 ⟨g, o, none⟩).run Tryz.prog w = .ok (.agg (spt i j f)) w := by
  have := run_loadVar_mid (P := Tryz.prog) w g o 187 (spt i j f).toList _ h Tryz.underlying187 rfl (by rw [pieceSize]; simp [spt_size])
  simpa using this
abbrev PcB (w : World) (g : Nat) (X : Array Value) : Prop := Bk w g 187 X
theorem PcB.leaf {w : World} {g i j : Nat} {f : Nat → Nat} (h : PcB w g (spt i j f)) : w.rangeAt g 2 (Rw f).toList := fun k v hv => by
  rw [h.cell (2 + k)]
  unfold spt
  rw [Array.getElem?_append_right (by simp)]
  simpa using hv
theorem PcB.at {w : World} {g i j : Nat} {f : Nat → Nat} (h : PcB w g (spt i j f)) : w.cell? ⟨g, 0, none⟩ = some (.int .i64 (i : Nat)) ∧ w.cell? ⟨g, 1, none⟩ = some (.int .i64 (j : Nat)) := by
  rw [h.cell 0, h.cell 1]
  unfold spt
  exact ⟨by rw [Array.getElem?_append_left (by simp)]; rfl, by rw [Array.getElem?_append_left (by simp)]; rfl⟩
/-- A whole piece out of memory, into its variable; within a walk with a fence. -/
theorem wpListIn_pl {F : Fence} {n : Nat} {ops : Array Oper} {rest : List Oper} {o : Oper} {a : Act} {w : World} {Q : Exit → Act → World → Prop} (hgd : Region.wanted o (yielded ops a.tmps) = true) (x : Operand) (ho : o.op = .load 187 x)
    (g k : Nat) (hx : a.eval x = .pointer (some ⟨g, k, none⟩)) {i j : Nat} {f : Nat → Nat} (hg : w.rangeAt g k (spt i j f).toList)
    (h : wpListIn F n Tryz.prog ops Q rest (a.put o.dst (.agg (spt i j f))) w) : wpListIn F n Tryz.prog ops Q (o :: rest) a w :=
  BigFrame.wpListIn_want hgd fun _ hK => by
    unfold Oper.wpIn
    refine ⟨?_, ?_⟩
    · simp [Oper.about, ho]
    · rw [Oper.semAt_plain F _ _ (by rw [ho]; intro c hc'; cases hc')]
      unfold execOp
      simp only [ho, hx, Instr.loadAt, Instr.sureAddr, Sem.run_bind, Sem.run_pure, Result.andThen_ok, piece_range hg]
      rw [Oper.uponIn_value]
      exact hK _ _ h
theorem wpListIn_pst {F : Fence} {n : Nat} {ops : Array Oper} {rest : List Oper} {o : Oper} {a : Act} {w : World} {Q : Exit → Act → World → Prop} (hgd : Region.wanted o (yielded ops a.tmps) = true) (x y : Operand) (ho : o.op = .store 187 x y)
    (g : Nat) (hx : a.eval x = .pointer (some ⟨g, 0, none⟩)) {X : Array Value} {i j : Nat} {f : Nat → Nat} (hy : a.eval y = .agg (spt i j f)) (hg : PcB w g X) (hX : X.size = 66)
    (h : wpListIn F n Tryz.prog ops Q rest (a.put o.dst undef) (w.setRow g (spt i j f))) : wpListIn F n Tryz.prog ops Q (o :: rest) a w :=
  BigFrame.wpListIn_want hgd fun _ hK => by
    have hs := run_storeVar_row (P := Tryz.prog) w g 187 187 X (spt i j f) hg (by rw [pieceSize, spt_size]) (by rw [hX, spt_size]) (spt_one i j f)
    unfold Oper.wpIn
    refine ⟨?_, ?_⟩
    · simp [Oper.about, ho]
    · rw [Oper.semAt_plain F _ _ (by rw [ho]; intro c hc'; cases hc')]
      unfold execOp
      simp only [ho, hx, hy, Instr.storeAt, Instr.sureAddr, Sem.run_bind, Sem.run_pure, Result.andThen_ok, hs]
      exact hK _ _ h
theorem wanted_none {o : Oper} {y : Nat → Option Bool} (hg : o.guard = none) : Region.wanted o y = true := by simp [Region.wanted, hg]
/-- A struct is built: whatever the world. -/
theorem yb {P : Program} {ops : Array Oper} {S : World → Prop} {o : Oper} {a : Act} (hw : Region.wanted o (yielded ops a.tmps) = true) (t : TypeId) (parts : Array (Nat × Operand)) (ho : o.op = .build t parts) (cells : Array Value)
    (h : P.built t (parts.map fun (i, x) => (i, a.eval x)).toList = some cells) : YieldsIf P ops S o (.agg cells) a :=
  .inl ⟨hw, fun w _ => by
    unfold execOp
    simp only [ho, Sem.run_bind, run_build w t _ cells h, Result.andThen_ok, Sem.run_pure]⟩
theorem ypiece {ops : Array Oper} {S : World → Prop} {o : Oper} {a : Act} (hw : Region.wanted o (yielded ops a.tmps) = true) (x y : Operand) (ho : o.op = .build 187 #[(0, x), (1, y)]) (i j : Nat) (f : Nat → Nat)
    (hx : a.eval x = .agg #[.int .i64 (i : Nat), .int .i64 (j : Nat)]) (hy : a.eval y = .agg (Rw f)) : YieldsIf Tryz.prog ops S o (.agg (spt i j f)) a :=
  yb hw _ _ ho _ (by simp only [List.map_toArray, List.map_cons, List.map_nil, hx, hy]; exact piece_built i j f)
/-- A slice of one wide element is made: a step of a region that draws. -/
theorem hw_mk1 {P : Program} {ops : Array Oper} {o : Oper} {a : Act} {w : World} {K : Act → World → Prop} {Q : Exit → Act → World → Prop} (hg : Region.wanted o (yielded ops a.tmps) = true) (t e : TypeId) (x : Operand) (ho : o.op = .buildSlice t 1 #[(0, x)])
    (cs : Array Value) (n : Nat) (hx : a.eval x = .agg cs) (hc : cs.size = n) (ie : TypeInfo) (z : Value) (hu : P.underlying t = some (.slice e)) (hie : P.info? e = some ie) (hz : ie.zero = some z) (hsz : ie.size = n) (h0 : 0 < n) (hs : n ≤ 2 ^ 24)
    (hk : K (a.put o.dst (.slice (some ⟨w.heap.size, 0, none⟩) 1 1)) (w.alloc (.cells cs e))) : if Region.wanted o (yielded ops a.tmps) = true then Oper.wp P o a w K Q else K (a.put o.dst undef) w := by
  rw [if_pos hg]
  refine wp_buildSlice t e 1 _ ho cs ie z hu hie hz (by rw [hsz]; omega) (by rw [hsz]; omega) ?_ hk
  rw [hsz]
  simp only [List.map_toArray, List.map_cons, List.map_nil, hx]
  exact fill_row cs _ n h0 hc (by simp)
end Go.Proofs.YtjolkhiggcmoiaaGreatDoor
