/-
  Sixty-four lists of cells under way, each in a row of its own; what comes of a strip of leaves.
-/
import Derived.Test.YtoaeeojnelmlnaaDoorQIn
namespace Go.Proofs.YtoaeeojnelmlnaaDoor
open Go.RowKit Go.Shelf
set_option linter.unusedVariables false
set_option linter.unusedSimpArgs false
def ccell (p : Nat × Nat) : List Value := [.int .i64 (p.1 : Nat), .int .i64 (p.2 : Nat)]
def ccells (l : List (Nat × Nat)) : List Value := l.flatMap ccell
theorem ccells_app (l : List (Nat × Nat)) (p : Nat × Nat) : ccells (l ++ [p]) = ccells l ++ [.int .i64 (p.1 : Nat), .int .i64 (p.2 : Nat)] := by simp [ccells, ccell]
theorem ccells_join (l m : List (Nat × Nat)) : ccells (l ++ m) = ccells l ++ ccells m := by simp [ccells]
theorem ccells_len (l : List (Nat × Nat)) : (ccells l).length = l.length * 2 := by
  induction l with
  | nil => rfl
  | cons p l ih => rw [show ccells (p :: l) = ccell p ++ ccells l from rfl, List.length_append, ih, show (ccell p).length = 2 from rfl, List.length_cons]; omega
theorem ccells_one (l : List (Nat × Nat)) : ∀ u ∈ ccells l, u.oneCell' = true := fun u hu => by
  obtain ⟨p, _, h⟩ := List.mem_flatMap.1 hu
  simp [ccell] at h
  rcases h with rfl | rfl <;> rfl
theorem ccells_at : ∀ {l : List (Nat × Nat)} {i : Nat} {p : Nat × Nat}, l[i]? = some p → (ccells l)[i * 2]? = some (.int .i64 (p.1 : Nat)) ∧ (ccells l)[i * 2 + 1]? = some (.int .i64 (p.2 : Nat))
  | [], i, p, h => by simp at h
  | q :: l, 0, p, h => by
    simp only [List.getElem?_cons_zero, Option.some.injEq] at h
    subst h
    exact ⟨rfl, rfl⟩
  | q :: l, i + 1, p, h => by
    have := ccells_at (l := l) (i := i) (p := p) (by simpa using h)
    have e : ccells (q :: l) = ccell q ++ ccells l := rfl
    have hl : (ccell q).length = 2 := rfl
    refine ⟨?_, ?_⟩
    · rw [e, List.getElem?_append_right (by omega), hl, show (i + 1) * 2 - 2 = i * 2 by omega]; exact this.1
    · rw [e, List.getElem?_append_right (by omega), hl, show (i + 1) * 2 + 1 - 2 = i * 2 + 1 by omega]; exact this.2
/-! ### The pure side -/
def updL (L : Nat → List (Nat × Nat)) (r : Nat) (x : Nat × Nat) : Nat → List (Nat × Nat) := fun a => if a = r then L a ++ [x] else L a
def updV (V : Nat → Value) (r : Nat) (v : Value) : Nat → Value := fun a => if a = r then v else V a
/-- A cell of the leaf at place p more. -/
def addC (p : Nat × Nat) (L : Nat → List (Nat × Nat)) (x : Nat × Nat) : Nat → List (Nat × Nat) := updL L x.1 (64 * p.1 + x.1, 64 * p.2 + x.2)
def addP (M : Nat → Nat → Bool) (L : Nat → List (Nat × Nat)) (p : Nat × Nat) : Nat → List (Nat × Nat) := (cellsUp (blk (sub M p.1 p.2)) 64).foldl (addC p) L
/-- The lists that come of a strip of leaves. -/
def stripL (M : Nat → Nat → Bool) (S : List (Nat × Nat)) : Nat → List (Nat × Nat) := S.foldl (addP M) fun _ => []
/-- The cells of a strip, row by row. -/
def cellsS (M : Nat → Nat → Bool) (S : List (Nat × Nat)) : List (Nat × Nat) := (List.range 64).flatMap (stripL M S)
theorem cellsS_eq (M : Nat → Nat → Bool) (S : List (Nat × Nat)) : cellsS M S = (List.range 64).flatMap (stripL M S) := rfl
theorem stripL_nil (M : Nat → Nat → Bool) (a : Nat) : stripL M [] a = [] := rfl
theorem stripL_app (M : Nat → Nat → Bool) (S : List (Nat × Nat)) (p : Nat × Nat) : stripL M (S ++ [p]) = (cellsUp (blk (sub M p.1 p.2)) 64).foldl (addC p) (stripL M S) := by simp only [stripL, List.foldl_append, List.foldl_cons, List.foldl_nil, addP]
theorem updL_len (L : Nat → List (Nat × Nat)) (r : Nat) (x : Nat × Nat) (a : Nat) : (updL L r x a).length ≤ (L a).length + 1 := by unfold updL; split <;> simp
theorem fold_snoc (p : Nat × Nat) (L : Nat → List (Nat × Nat)) (pre : List (Nat × Nat)) (x : Nat × Nat) : (pre ++ [x]).foldl (addC p) L = updL (pre.foldl (addC p) L) x.1 (64 * p.1 + x.1, 64 * p.2 + x.2) := by simp only [List.foldl_append, List.foldl_cons, List.foldl_nil, addC]
/-! ### In memory -/
/-- Sixty-four values. -/
def Vw (V : Nat → Value) : Array Value := Array.ofFn (n := 64) fun i => V i.val
theorem Vw_size (V : Nat → Value) : (Vw V).size = 64 := by simp [Vw]
theorem Vw_get (V : Nat → Value) (i : Nat) (h : i < 64) : (Vw V)[i]? = some (V i) := by simp [Vw, h]
theorem Vw_set (V : Nat → Value) (r : Nat) (v : Value) (hr : r < 64) : (Vw V).setIfInBounds r v = Vw (updV V r v) := by
  apply Array.ext_getElem?
  intro i
  rw [Array.getElem?_setIfInBounds]
  by_cases hi : i < 64
  · by_cases e : r = i
    · subst e; rw [Vw_get (updV V r v) r hr]; simp only [updV, Vw_size, hr, if_true]
    · have : ¬ i = r := fun h => e h.symm
      rw [Vw_get V i hi, Vw_get (updV V r v) i hi]
      simp [updV, e, this]
  · have : ¬ r = i := by omega
    rw [if_neg this, Array.getElem?_eq_none (by rw [Vw_size]; omega), Array.getElem?_eq_none (by rw [Vw_size]; omega)]
theorem rowsType : Tryd.prog.underlying 165 = some (.array 64 26) := by kernel_rfl
theorem rowsSize : (Tryd.prog.info? 165).map (·.size) = some 64 := by kernel_rfl
theorem rowsZero : (Tryd.prog.info? 165).map (fun i => (i.zero, i.size)) = some (some (.agg (Vw fun _ => .slice none 0 0)), 64) := by kernel_rfl
theorem sliceSize : (Tryd.prog.info? 26).map (·.size) = some 1 := by kernel_rfl
attribute [irreducible] Vw
theorem run_ixV (V : Nat → Value) (hV : ∀ i, i < 64 → ∃ ao n cap, V i = .slice ao n cap) (k : Nat) (hk : k < 64) (w : World) : (Instr.index 165 (.agg (Vw V)) (.int .i64 k)).run Tryd.prog w = .ok (V k) w := by
  have hs : ∃ i, Tryd.prog.info? 26 = some i ∧ i.size = 1 := by
    have := sliceSize
    cases h : Tryd.prog.info? 26 with
    | none => rw [h] at this; cases this
    | some i => rw [h] at this; exact ⟨i, rfl, by simpa using this⟩
  obtain ⟨i, hi, h1⟩ := hs
  obtain ⟨ao, n, cap, hv⟩ := hV k hk
  have hsz : (sizeOf 26).run Tryd.prog w = .ok 1 w := by simp [sizeOf, typeInfo, hi, h1]
  have hget := Vw_get V k hk
  rw [hv] at hget
  rw [hv]
  unfold Instr.index
  simp [asIntOf, run_underlying rowsType, part, hsz, hget, Sem.run_bind, Result.andThen]
  intro h
  omega
theorem bk_type {w : World} {r : Nat} {t t' : TypeId} {cs cs' : Array Value} (h : Bk w r t cs) (h' : Bk w r t' cs') : t = t' := by
  unfold Bk at h h'
  rw [h] at h'
  cases h'
  rfl
structure RowsP (B bR bN : Nat) (V : Nat → Value) (L : Nat → List (Nat × Nat)) (N : Nat) (W : World) : Prop where
  box : Bk W bR 165 (Vw V)
  num : Bk W bN 3 #[.int .i64 (N : Nat)]
  row : ∀ a, a < 64 → W.ownsRow B 58 2 (V a) (L a).length (ccells (L a))
  dist : ∀ a a', a < 64 → a' < 64 → a ≠ a' → ∀ k, (V a).ownBlock = some k → (V a').ownBlock ≠ some k
  len : ∀ a, (L a).length ≤ N
  empty : ∀ a, L a = [] → V a = .slice none 0 0
section
variable {B bR bN N : Nat} {V : Nat → Value} {L : Nat → List (Nat × Nat)} {A W : World}
theorem RowsP.at (h : RowsP B bR bN V L N W) {a : Nat} (ha : a < 64) : W.cell? ⟨bR, a, none⟩ = some (V a) := (h.box.cell a).trans (Vw_get V a ha)
theorem RowsP.kept {F : Nat → Prop} (h : RowsP B bR bN V L N A) (hf : Far F A W) (hF : ∀ k, F k → ∀ o : Obj, A.heap[k]? = some o → ∀ cs t, (t = 165 ∨ t = 3 ∨ t = 58) → o ≠ .cells cs t (0, 0)) : RowsP B bR bN V L N W :=
  ⟨h.box.far' hf fun q => hF _ q _ h.box _ _ (.inl rfl) rfl, h.num.far' hf fun q => hF _ q _ h.num _ _ (.inr (.inl rfl)) rfl, fun a ha => row_same (h.row a ha) fun k hk hl => hf.block k hl fun q => by
    rcases (h.row a ha).2 with ⟨e, _⟩ | ⟨g', cap, cur, e, _, hg, _⟩
    · rw [e] at hk; cases hk
    · rw [e] at hk
      have : g' = k := Option.some.inj hk
      subst this
      exact hF _ q _ hg _ _ (.inr (.inr rfl)) rfl, h.dist, h.len, h.empty⟩
theorem RowsP.still (h : RowsP B bR bN V L N A) (hf : Far (fun _ => False) A W) : RowsP B bR bN V L N W := h.kept hf fun _ q => q.elim
theorem RowsP.grown {row : Option Nat} (h : RowsP B bR bN V L N A) (hg : A.grownBy W row) (hr : ∀ r, row = some r → ∃ o : Obj, A.heap[r]? = some o ∧ o.isCells = false) : RowsP B bR bN V L N W :=
  h.kept (grown_F hg) fun k q o ho cs t _ e => by
    obtain ⟨o', ho', hc⟩ := hr k q
    rw [ho] at ho'
    cases ho'
    subst e
    cases hc
theorem RowsP.push {W5 : World} {r : Nat} {v : Value} {x : Nat × Nat} (h : RowsP B bR bN V L N A) (hr : r < 64) (hown : W5.ownsRow B 58 2 v ((L r).length + 1) (ccells (L r) ++ [.int .i64 (x.1 : Nat), .int .i64 (x.2 : Nat)])) (hg : A.grownBy W5 (V r).ownBlock)
    (hat : ∀ g, v.ownBlock = some g → (V r).ownBlock = some g ∨ A.heap.size ≤ g) :
    RowsP B bR bN (updV V r v) (updL L r x) (N + 1) ((W5.setCell ⟨bR, r, none⟩ v).setCell ⟨bN, 0, none⟩ (.int .i64 ((N + 1 : Nat) : Int))) := by
  have nR : some bR ≠ (V r).ownBlock := fun e => q_row_ne h.box (h.row r hr) (by decide) e.symm
  have nN : some bN ≠ (V r).ownBlock := fun e => q_row_ne h.num (h.row r hr) (by decide) e.symm
  have b5 := qb_grown h.box hg nR
  have c5 := qb_grown h.num hg nN
  have hne : bR ≠ bN := fun e => absurd (bk_type h.box (e ▸ h.num)) (by decide)
  have b6 : Bk (W5.setCell ⟨bR, r, none⟩ v) bR 165 (Vw (updV V r v)) := by
    have := b5.set r v
    rw [Vw_set V r v hr] at this
    exact this
  have hfar : Far (fun k => k = bR ∨ k = bN) W5 ((W5.setCell ⟨bR, r, none⟩ v).setCell ⟨bN, 0, none⟩ (.int .i64 ((N + 1 : Nat) : Int))) :=
    ((Far.refl (fun k => k = bR ∨ k = bN) W5).set ⟨bR, r, none⟩ v fun _ => .inl rfl).set ⟨bN, 0, none⟩ _ fun _ => .inr rfl
  refine ⟨b6.far (p := ⟨bN, 0, none⟩) hne _, (c5.far (p := ⟨bR, r, none⟩) (fun e => hne e.symm) v).set 0 _, fun a ha => ?_, fun a a' ha ha' hn k hk hk' => ?_, fun a => ?_, fun a => ?_⟩
  · by_cases e : a = r
    · subst e
      have hr1 : W5.ownsRow B 58 2 v (updL L a x a).length (ccells (updL L a x a)) := by
        simp only [updL, if_true, List.length_append, List.length_singleton, ccells_app]
        exact hown
      rw [show updV V a v a = v by simp [updV]]
      exact row_same hr1 fun k hk hl => hfar.block k hl fun q => by
        rcases q with rfl | rfl
        · exact q_row_ne b5 hown (by decide) hk
        · exact q_row_ne c5 hown (by decide) hk
    · rw [show updV V r v a = V a by simp [updV, e], show updL L r x a = L a by simp [updL, e]]
      have h5 : W5.ownsRow B 58 2 (V a) (L a).length (ccells (L a)) := row_same (h.row a ha) fun k hk hl => hg.block k hl fun q => h.dist a r ha hr e k hk q.symm
      exact row_same h5 fun k hk hl => hfar.block k hl fun q => by
        rcases q with rfl | rfl
        · exact q_row_ne b5 h5 (by decide) hk
        · exact q_row_ne c5 h5 (by decide) hk
  · have key : ∀ b, b < 64 → b ≠ r → ∀ k, v.ownBlock = some k → (V b).ownBlock ≠ some k := fun b hb hbr k hv hk2 => by
      rcases hat k hv with e | e
      · exact h.dist b r hb hr hbr k hk2 e
      · have := (h.row b hb).lt k hk2
        omega
    unfold updV at hk hk'
    split at hk <;> split at hk'
    · rename_i e1 e2; exact hn (e1.trans e2.symm)
    · rename_i e1 e2; exact key a' ha' e2 k hk hk'
    · rename_i e1 e2; exact key a ha e1 k hk' hk
    · exact h.dist a a' ha ha' hn k hk hk'
  · have := h.len a
    unfold updL
    split
    · rw [List.length_append, List.length_singleton]; omega
    · omega
  · unfold updL updV
    split
    · intro e; simp at e
    · exact h.empty a
/-- What is appended to a row apart leaves these rows alone. -/
theorem RowsP.past {lv : Value} {m : Nat} {xs : List Value} (h : RowsP B bR bN V L N A) (hg : A.grownBy W lv.ownBlock) (hown : A.ownsRow B 58 2 lv m xs) (ha : ∀ a, a < 64 → ∀ k, lv.ownBlock = some k → (V a).ownBlock ≠ some k) : RowsP B bR bN V L N W :=
  ⟨qb_grown h.box hg fun e => q_row_ne h.box hown (by decide) e.symm, qb_grown h.num hg fun e => q_row_ne h.num hown (by decide) e.symm,
    fun a haa => row_same (h.row a haa) fun k hk hl => hg.block k hl fun q => ha a haa k q.symm hk, h.dist, h.len, h.empty⟩
end
attribute [irreducible] stripL cellsS addC
end Go.Proofs.YtoaeeojnelmlnaaDoor
