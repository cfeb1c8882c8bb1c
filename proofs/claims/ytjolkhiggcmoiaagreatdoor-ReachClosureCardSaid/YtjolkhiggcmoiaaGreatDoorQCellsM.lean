/-
  QCellsM: QRowsP, QLoopD, QCells, QCellsSeq.
-/
import Derived.Test.YtjolkhiggcmoiaaGreatDoorQSeqs
import Derived.RangeFuncLeaves
import Derived.Laws.AppendOwn
import Derived.Deep.AppendLies
import Derived.StillTailTactics
/-! ## QRowsP: Sixty-four lists of cells under way, each in a row of its own; what comes of a strip of leaves. -/
namespace Go.Proofs.YtjolkhiggcmoiaaGreatDoor
open Go.RowKit Go.Shelf
set_option linter.unusedVariables false
set_option linter.unusedSimpArgs false
def ccell (p : Nat × Nat) : List Value := [.int .i64 (p.1 : Nat), .int .i64 (p.2 : Nat)]
def ccells (l : List (Nat × Nat)) : List Value := l.flatMap ccell
theorem ccells_app (l : List (Nat × Nat)) (p : Nat × Nat) : ccells (l ++ [p]) = ccells l ++ [.int .i64 (p.1 : Nat), .int .i64 (p.2 : Nat)] := by simp [ccells, ccell]
theorem ccells_join (l m : List (Nat × Nat)) : ccells (l ++ m) = ccells l ++ ccells m := by simp [ccells]
theorem ccells_len (l : List (Nat × Nat)) : (ccells l).length = l.length * 2 := by
  induction l with
  | nil => rfl
  | cons p l ih => rw [show ccells (p :: l) = ccell p ++ ccells l from rfl, List.length_append, ih, show (ccell p).length = 2 from rfl, List.length_cons]; omega
theorem ccells_one (l : List (Nat × Nat)) : ∀ u ∈ ccells l, u.oneCell' = true := fun u hu => by
  obtain ⟨p, _, h⟩ := List.mem_flatMap.1 hu
  simp [ccell] at h
  rcases h with rfl | rfl <;> rfl
theorem ccells_at : ∀ {l : List (Nat × Nat)} {i : Nat} {p : Nat × Nat}, l[i]? = some p → (ccells l)[i * 2]? = some (.int .i64 (p.1 : Nat)) ∧ (ccells l)[i * 2 + 1]? = some (.int .i64 (p.2 : Nat))
  | [], i, p, h => by simp at h
  | q :: l, 0, p, h => by
    simp only [List.getElem?_cons_zero, Option.some.injEq] at h
    subst h
    exact ⟨rfl, rfl⟩
  | q :: l, i + 1, p, h => by
    have := ccells_at (l := l) (i := i) (p := p) (by simpa using h)
    have e : ccells (q :: l) = ccell q ++ ccells l := rfl
    have hl : (ccell q).length = 2 := rfl
    refine ⟨?_, ?_⟩
    · rw [e, List.getElem?_append_right (by omega), hl, show (i + 1) * 2 - 2 = i * 2 by omega]; exact this.1
    · rw [e, List.getElem?_append_right (by omega), hl, show (i + 1) * 2 + 1 - 2 = i * 2 + 1 by omega]; exact this.2
/-! ### The pure side -/
def updL (L : Nat → List (Nat × Nat)) (r : Nat) (x : Nat × Nat) : Nat → List (Nat × Nat) := fun a => if a = r then L a ++ [x] else L a
def updV (V : Nat → Value) (r : Nat) (v : Value) : Nat → Value := fun a => if a = r then v else V a
/-- A cell of the leaf at place p more. -/
def addC (p : Nat × Nat) (L : Nat → List (Nat × Nat)) (x : Nat × Nat) : Nat → List (Nat × Nat) := updL L x.1 (64 * p.1 + x.1, 64 * p.2 + x.2)
def addP (M : Nat → Nat → Bool) (L : Nat → List (Nat × Nat)) (p : Nat × Nat) : Nat → List (Nat × Nat) := (cellsUp (blk (sub M p.1 p.2)) 64).foldl (addC p) L
/-- The lists that come of a strip of leaves. -/
def stripL (M : Nat → Nat → Bool) (S : List (Nat × Nat)) : Nat → List (Nat × Nat) := S.foldl (addP M) fun _ => []
/-- The cells of a strip, row by row. -/
def cellsS (M : Nat → Nat → Bool) (S : List (Nat × Nat)) : List (Nat × Nat) := (List.range 64).flatMap (stripL M S)
theorem cellsS_eq (M : Nat → Nat → Bool) (S : List (Nat × Nat)) : cellsS M S = (List.range 64).flatMap (stripL M S) := rfl
theorem stripL_nil (M : Nat → Nat → Bool) (a : Nat) : stripL M [] a = [] := rfl
theorem stripL_app (M : Nat → Nat → Bool) (S : List (Nat × Nat)) (p : Nat × Nat) : stripL M (S ++ [p]) = (cellsUp (blk (sub M p.1 p.2)) 64).foldl (addC p) (stripL M S) := by simp only [stripL, List.foldl_append, List.foldl_cons, List.foldl_nil, addP]
theorem updL_len (L : Nat → List (Nat × Nat)) (r : Nat) (x : Nat × Nat) (a : Nat) : (updL L r x a).length ≤ (L a).length + 1 := by unfold updL; split <;> simp
theorem fold_snoc (p : Nat × Nat) (L : Nat → List (Nat × Nat)) (pre : List (Nat × Nat)) (x : Nat × Nat) : (pre ++ [x]).foldl (addC p) L = updL (pre.foldl (addC p) L) x.1 (64 * p.1 + x.1, 64 * p.2 + x.2) := by simp only [List.foldl_append, List.foldl_cons, List.foldl_nil, addC]
/-! ### In memory -/
/-- Sixty-four values. -/
def Vw (V : Nat → Value) : Array Value := Array.ofFn (n := 64) fun i => V i.val
theorem Vw_size (V : Nat → Value) : (Vw V).size = 64 := by simp [Vw]
theorem Vw_get (V : Nat → Value) (i : Nat) (h : i < 64) : (Vw V)[i]? = some (V i) := by simp [Vw, h]
theorem Vw_set (V : Nat → Value) (r : Nat) (v : Value) (hr : r < 64) : (Vw V).setIfInBounds r v = Vw (updV V r v) := by
  apply Array.ext_getElem?
  intro i
  rw [Array.getElem?_setIfInBounds]
  by_cases hi : i < 64
  · by_cases e : r = i
    · subst e; rw [Vw_get (updV V r v) r hr]; simp only [updV, Vw_size, hr, if_true]
    · have : ¬ i = r := fun h => e h.symm
      rw [Vw_get V i hi, Vw_get (updV V r v) i hi]
      simp [updV, e, this]
  · have : ¬ r = i := by omega
    rw [if_neg this, Array.getElem?_eq_none (by rw [Vw_size]; omega), Array.getElem?_eq_none (by rw [Vw_size]; omega)]
theorem rowsType : Tryz.prog.underlying 160 = some (.array 64 22) := by kernel_rfl
theorem rowsSize : (Tryz.prog.info? 160).map (·.size) = some 64 := by kernel_rfl
theorem rowsZero : (Tryz.prog.info? 160).map (fun i => (i.zero, i.size)) = some (some (.agg (Vw fun _ => .slice none 0 0)), 64) := by kernel_rfl
theorem sliceSize : (Tryz.prog.info? 22).map (·.size) = some 1 := by kernel_rfl
attribute [irreducible] Vw
theorem run_ixV (V : Nat → Value) (hV : ∀ i, i < 64 → ∃ ao n cap, V i = .slice ao n cap) (k : Nat) (hk : k < 64) (w : World) : (Instr.index 160 (.agg (Vw V)) (.int .i64 k)).run Tryz.prog w = .ok (V k) w := by
  have hs : ∃ i, Tryz.prog.info? 22 = some i ∧ i.size = 1 := by
    have := sliceSize
    cases h : Tryz.prog.info? 22 with
    | none => rw [h] at this; cases this
    | some i => rw [h] at this; exact ⟨i, rfl, by simpa using this⟩
  obtain ⟨i, hi, h1⟩ := hs
  obtain ⟨ao, n, cap, hv⟩ := hV k hk
  have hsz : (sizeOf 22).run Tryz.prog w = .ok 1 w := by simp [sizeOf, typeInfo, hi, h1]
  have hget := Vw_get V k hk
  rw [hv] at hget
  rw [hv]
  unfold Instr.index
  simp [asIntOf, run_underlying rowsType, part, hsz, hget, Sem.run_bind, Result.andThen]
  intro h
  omega
theorem bk_type {w : World} {r : Nat} {t t' : TypeId} {cs cs' : Array Value} (h : Bk w r t cs) (h' : Bk w r t' cs') : t = t' := by
  unfold Bk at h h'
  rw [h] at h'
  cases h'
  rfl
structure RowsP (B bR bN : Nat) (V : Nat → Value) (L : Nat → List (Nat × Nat)) (N : Nat) (W : World) : Prop where
  box : Bk W bR 160 (Vw V)
  num : Bk W bN 3 #[.int .i64 (N : Nat)]
  row : ∀ a, a < 64 → W.ownsRow B 71 2 (V a) (L a).length (ccells (L a))
  dist : ∀ a a', a < 64 → a' < 64 → a ≠ a' → ∀ k, (V a).ownBlock = some k → (V a').ownBlock ≠ some k
  len : ∀ a, (L a).length ≤ N
  empty : ∀ a, L a = [] → V a = .slice none 0 0
section
variable {B bR bN N : Nat} {V : Nat → Value} {L : Nat → List (Nat × Nat)} {A W : World}
theorem RowsP.at (h : RowsP B bR bN V L N W) {a : Nat} (ha : a < 64) : W.cell? ⟨bR, a, none⟩ = some (V a) := (h.box.cell a).trans (Vw_get V a ha)
theorem RowsP.kept {F : Nat → Prop} (h : RowsP B bR bN V L N A) (hf : Far F A W) (hF : ∀ k, F k → ∀ o : Obj, A.heap[k]? = some o → ∀ cs t, (t = 160 ∨ t = 3 ∨ t = 71) → o ≠ .cells cs t (0, 0)) : RowsP B bR bN V L N W :=
  ⟨h.box.far' hf fun q => hF _ q _ h.box _ _ (.inl rfl) rfl, h.num.far' hf fun q => hF _ q _ h.num _ _ (.inr (.inl rfl)) rfl, fun a ha => row_same (h.row a ha) fun k hk hl => hf.block k hl fun q => by
    rcases (h.row a ha).2 with ⟨e, _⟩ | ⟨g', cap, cur, e, _, hg, _⟩
    · rw [e] at hk; cases hk
    · rw [e] at hk
      have : g' = k := Option.some.inj hk
      subst this
      exact hF _ q _ hg _ _ (.inr (.inr rfl)) rfl, h.dist, h.len, h.empty⟩
theorem RowsP.still (h : RowsP B bR bN V L N A) (hf : Far (fun _ => False) A W) : RowsP B bR bN V L N W := h.kept hf fun _ q => q.elim
theorem RowsP.grown {row : Option Nat} (h : RowsP B bR bN V L N A) (hg : A.grownBy W row) (hr : ∀ r, row = some r → ∃ o : Obj, A.heap[r]? = some o ∧ o.isCells = false) : RowsP B bR bN V L N W :=
  h.kept (grown_F hg) fun k q o ho cs t _ e => by
    obtain ⟨o', ho', hc⟩ := hr k q
    rw [ho] at ho'
    cases ho'
    subst e
    cases hc
theorem RowsP.push {W5 : World} {r : Nat} {v : Value} {x : Nat × Nat} (h : RowsP B bR bN V L N A) (hr : r < 64) (hown : W5.ownsRow B 71 2 v ((L r).length + 1) (ccells (L r) ++ [.int .i64 (x.1 : Nat), .int .i64 (x.2 : Nat)])) (hg : A.grownBy W5 (V r).ownBlock)
    (hat : ∀ g, v.ownBlock = some g → (V r).ownBlock = some g ∨ A.heap.size ≤ g) :
    RowsP B bR bN (updV V r v) (updL L r x) (N + 1) ((W5.setCell ⟨bR, r, none⟩ v).setCell ⟨bN, 0, none⟩ (.int .i64 ((N + 1 : Nat) : Int))) := by
  have nR : some bR ≠ (V r).ownBlock := fun e => q_row_ne h.box (h.row r hr) (by decide) e.symm
  have nN : some bN ≠ (V r).ownBlock := fun e => q_row_ne h.num (h.row r hr) (by decide) e.symm
  have b5 := qb_grown h.box hg nR
  have c5 := qb_grown h.num hg nN
  have hne : bR ≠ bN := fun e => absurd (bk_type h.box (e ▸ h.num)) (by decide)
  have b6 : Bk (W5.setCell ⟨bR, r, none⟩ v) bR 160 (Vw (updV V r v)) := by
    have := b5.set r v
    rw [Vw_set V r v hr] at this
    exact this
  have hfar : Far (fun k => k = bR ∨ k = bN) W5 ((W5.setCell ⟨bR, r, none⟩ v).setCell ⟨bN, 0, none⟩ (.int .i64 ((N + 1 : Nat) : Int))) :=
    ((Far.refl (fun k => k = bR ∨ k = bN) W5).set ⟨bR, r, none⟩ v fun _ => .inl rfl).set ⟨bN, 0, none⟩ _ fun _ => .inr rfl
  refine ⟨b6.far (p := ⟨bN, 0, none⟩) hne _, (c5.far (p := ⟨bR, r, none⟩) (fun e => hne e.symm) v).set 0 _, fun a ha => ?_, fun a a' ha ha' hn k hk hk' => ?_, fun a => ?_, fun a => ?_⟩
  · by_cases e : a = r
    · subst e
      have hr1 : W5.ownsRow B 71 2 v (updL L a x a).length (ccells (updL L a x a)) := by
        simp only [updL, if_true, List.length_append, List.length_singleton, ccells_app]
        exact hown
      rw [show updV V a v a = v by simp [updV]]
      exact row_same hr1 fun k hk hl => hfar.block k hl fun q => by
        rcases q with rfl | rfl
        · exact q_row_ne b5 hown (by decide) hk
        · exact q_row_ne c5 hown (by decide) hk
    · rw [show updV V r v a = V a by simp [updV, e], show updL L r x a = L a by simp [updL, e]]
      have h5 : W5.ownsRow B 71 2 (V a) (L a).length (ccells (L a)) := row_same (h.row a ha) fun k hk hl => hg.block k hl fun q => h.dist a r ha hr e k hk q.symm
      exact row_same h5 fun k hk hl => hfar.block k hl fun q => by
        rcases q with rfl | rfl
        · exact q_row_ne b5 h5 (by decide) hk
        · exact q_row_ne c5 h5 (by decide) hk
  · have key : ∀ b, b < 64 → b ≠ r → ∀ k, v.ownBlock = some k → (V b).ownBlock ≠ some k := fun b hb hbr k hv hk2 => by
      rcases hat k hv with e | e
      · exact h.dist b r hb hr hbr k hk2 e
      · have := (h.row b hb).lt k hk2
        omega
    unfold updV at hk hk'
    split at hk <;> split at hk'
    · rename_i e1 e2; exact hn (e1.trans e2.symm)
    · rename_i e1 e2; exact key a' ha' e2 k hk hk'
    · rename_i e1 e2; exact key a ha e1 k hk' hk
    · exact h.dist a a' ha ha' hn k hk hk'
  · have := h.len a
    unfold updL
    split
    · rw [List.length_append, List.length_singleton]; omega
    · omega
  · unfold updL updV
    split
    · intro e; simp at e
    · exact h.empty a
/-- What is appended to a row apart leaves these rows alone. -/
theorem RowsP.past {lv : Value} {m : Nat} {xs : List Value} (h : RowsP B bR bN V L N A) (hg : A.grownBy W lv.ownBlock) (hown : A.ownsRow B 71 2 lv m xs) (ha : ∀ a, a < 64 → ∀ k, lv.ownBlock = some k → (V a).ownBlock ≠ some k) : RowsP B bR bN V L N W :=
  ⟨qb_grown h.box hg fun e => q_row_ne h.box hown (by decide) e.symm, qb_grown h.num hg fun e => q_row_ne h.num hown (by decide) e.symm,
    fun a haa => row_same (h.row a haa) fun k hk hl => hg.block k hl fun q => ha a haa k q.symm hk, h.dist, h.len, h.empty⟩
end
attribute [irreducible] stripL cellsS addC
/-! A range over a block's cells, from any frame. -/
theorem Tab.lt {w : World} (h : Tab w) : 0 < w.heap.size := block_lt_of_cell (h 0 (by decide))
theorem range_bc {g : Operand} {p q : Nat} {assign body : Code} {Q : Exit → Act → World → Prop} {T : Array Value} {ds : List Deferred} {w : World} (f : Nat → Nat) (hf : Wf f) (bx : Nat) (hX : Hold w bx (Rw f)) (hT : Tab w)
    (hg : Act.eval { tmps := T, defers := ds } g = .func (.func 90) #[] #[.pointer (some ⟨bx, 0, none⟩)])
    (I : List (Nat × Nat) → World → Prop) (hI : OwnFrom w.heap.size I) (h0 : I [] w) (hsz : ∀ pre W, I pre W → w.heap.size ≤ W.heap.size) (Iq : Nat → Nat × Nat → List (Nat × Nat) → World → Prop) (hIq : ∀ k x, OwnFrom w.heap.size (Iq k x))
    (hmk : ∀ x pre W, (pre ++ [x]) <+: cellsUp f 64 → I pre W → Iq W.heap.size x pre (W.alloc (.cells #[.int .i64 (x.1 : Nat), .int .i64 (x.2 : Nat)] 71)))
    (hassign : ∀ (L : Nat) (x : Nat × Nat) (W : World) (KK : Act → World → Prop), KK { tmps := (T.setIfInBounds p (.agg #[.int .i64 (x.1 : Nat), .int .i64 (x.2 : Nat)])).setIfInBounds q (.pointer (some ⟨W.heap.size, 0, none⟩)), defers := [] } (W.alloc (.cells #[.int .i64 (x.1 : Nat), .int .i64 (x.2 : Nat)] 71)) →
      assign.wpIn (Fence.wide.inRound L) (10 - 1 - 1) Tryz.prog (Exit.then KK (fun _ _ _ => False)) { tmps := T.setIfInBounds p (.agg #[.int .i64 (x.1 : Nat), .int .i64 (x.2 : Nat)]), defers := [] } W)
    (hbody : ∀ (L : Nat) (pre : List (Nat × Nat)) (x : Nat × Nat) (k : Nat) (W : World), w.heap.size ≤ L → (pre ++ [x]) <+: cellsUp f 64 → Iq k x pre W →
      body.wpIn (Fence.wide.inRound L) (10 - 1 - 1) Tryz.prog (ownPostG w.heap.size (KeepS TabK) I (fun _ _ _ => False) (pre ++ [x]) W) { tmps := (T.setIfInBounds p (.agg #[.int .i64 (x.1 : Nat), .int .i64 (x.2 : Nat)])).setIfInBounds q (.pointer (some ⟨k, 0, none⟩)), defers := [] } W)
    (hdone : ∀ (D : Nat) (W : World), w.heap.size ≤ D → I (cellsUp f 64) W → W.heap[D]? = some (.deferred (some [])) → Q .normal { tmps := T, defers := { target := .collected D, args := #[] } :: ds } W) :
    (Code.rangeFunc g #[p] assign body).wp Tryz.prog Q { tmps := T, defers := ds } w := by
  refine (wpIn_wide (n := 10)).1 ?_
  have hA : ∀ (W : World) o, Far (fun _ => False) W (W.alloc o) := fun W o => (Far.refl _ W).alloc o
  refine range_ok (by decide) hg (enters_of Tryz.func90 (by kernel_rfl) rfl) (bcells_seq (10 - 1) (by decide) f hf bx w hX hT) keepS_t (fun W L o o' hL _ _ => keepS_put (B := w.heap.size) (fun k hk => by rw [show k = _ from hk]; exact hT.lt) W L o o' hL) (fun _ => rfl)
    I (fun _ _ _ => False) hI (fun _ _ _ _ _ h _ _ => h.elim) h0 (fun pre x a' W => ((pre ++ [x]) <+: cellsUp f 64) ∧ ∃ k, Iq k x pre W ∧ a' = { tmps := (T.setIfInBounds p (.agg #[.int .i64 (x.1 : Nat), .int .i64 (x.2 : Nat)])).setIfInBounds q (.pointer (some ⟨k, 0, none⟩)), defers := [] }) ?_ ?_ ?_ (fun D xs W hD hS h1 hK => ?_) (fun D c pre W _ _ h _ => h.elim)
  · rintro pre x a' s A C row ⟨h1, k, h2, e⟩ hgr hr
    exact ⟨h1, k, hIq k x _ _ _ _ h2 hgr hr, e⟩
  · intro L pre x W KK hI' hok hK'
    have h9 := hassign L x W KK (hK' _ _ (keeps_far (hA W _) fun _ h => h.elim) ⟨KeepK.of_far (hA W _) fun k hk => ⟨by rw [show k = _ from hk]; exact Nat.lt_of_lt_of_le hT.lt (hsz _ _ hI'), id⟩, (hA W _).size⟩ (hI _ _ _ none hI' (far_grown (hA W _)) (fun r e => by cases e)) ⟨hok, W.heap.size, hmk x pre W hok hI', rfl⟩)
    simp only [encC, List.zip_toArray, List.zip_cons_cons, List.zip_nil_right, List.foldl_toArray', List.foldl_cons, List.foldl_nil]
    exact h9
  · rintro L pre x a' W hL hI' ⟨h1, k, h2, rfl⟩
    exact hbody L pre x k W hL h1 h2
  · subst hS
    exact hdone D W hD h1 hK
end Go.Proofs.YtjolkhiggcmoiaaGreatDoor
/-! ## QLoopD: A loop whose rounds range over functions: the list of deferred marks grows by one a round; the function's way out past such a list. -/
namespace Go.Proofs.YtjolkhiggcmoiaaGreatDoor
open Go.RowKit
set_option linter.unusedVariables false
set_option linter.unusedSimpArgs false
/-- The mark that a range over a function leaves. -/
def mkD (D : Nat) : Deferred := { target := .collected D, args := #[] }
/-- Marks of a call: blocks from B on, each for itself, none shut. -/
def Marks (W : World) (B : Nat) (ds : List Deferred) : Prop := ∃ L : List Nat, ds = L.map mkD ∧ L.Nodup ∧ ∀ D ∈ L, B ≤ D ∧ D < W.heap.size ∧ W.heap[D]? = some (.deferred (some []))
theorem Marks.nil (W : World) (B : Nat) : Marks W B [] := ⟨[], rfl, List.nodup_nil, fun _ h => by cases h⟩
theorem Marks.far {W W' : World} {B : Nat} {ds : List Deferred} {F : Nat → Prop} (h : Marks W B ds) (hf : Far F W W') (hF : ∀ k, B ≤ k → (W.heap[k]? = some (.deferred (some []))) → ¬ F k) : Marks W' B ds := by
  obtain ⟨L, e, hn, hL⟩ := h
  exact ⟨L, e, hn, fun D hD => ⟨(hL D hD).1, Nat.lt_of_lt_of_le (hL D hD).2.1 hf.size, (hf.block D (hL D hD).2.1 (hF D (hL D hD).1 (hL D hD).2.2)).trans (hL D hD).2.2⟩⟩
/-- The next mark lies behind all that were there when its range began. -/
theorem Marks.cons {W0 W : World} {B D : Nat} {ds : List Deferred} (h0 : Marks W0 B ds) (h : Marks W B ds) (hB : B ≤ D) (hD : W0.heap.size ≤ D) (hk : W.heap[D]? = some (.deferred (some []))) : Marks W B ({ target := .collected D, args := #[] } :: ds) := by
  obtain ⟨L0, e0, _, hL0⟩ := h0
  obtain ⟨L, e, hn, hL⟩ := h
  have inj : ∀ (A C : List Nat), A.map mkD = C.map mkD → A = C := fun A => by
    induction A with
    | nil => intro C h; cases C with
      | nil => rfl
      | cons _ _ => cases h
    | cons a A ih =>
      intro C h
      cases C with
      | nil => cases h
      | cons c C =>
        simp only [List.map_cons, List.cons.injEq, mkD, Deferred.mk.injEq, Target.collected.injEq, and_true] at h
        rw [h.1, ih C h.2]
  have hLL : L = L0 := inj L L0 (e ▸ e0)
  subst hLL
  refine ⟨D :: L, by rw [e]; rfl, List.nodup_cons.2 ⟨fun hm => by have := (hL0 D hm).2.1; omega, hn⟩, fun X hX => ?_⟩
  rcases List.mem_cons.1 hX with rfl | hX
  · exact ⟨hB, (Array.getElem?_eq_some_iff.1 hk).1, hk⟩
  · exact hL X hX
theorem putObj_far (W : World) (D : Nat) (o : Obj) : Far (fun k => k = D) W (W.putObj D o) := (Far.refl _ W).grown (grownBy_putObj' W D o) fun k _ e => by cases e; rfl
/-- The way out past marks alone. -/
theorem leave_list {F : Fence} {n : Nat} {P : Program} {fn : Func} {tmps : Array Value} {R : Ending → World → Prop} : ∀ (L : List Nat) (W : World), L.Nodup → (∀ D ∈ L, W.heap[D]? = some (.deferred (some []))) →
    (∀ W', Far (fun k => k ∈ L) W W' → ∃ v, (results fn tmps).run P W' = .ok v W' ∧ R (.returned v) W') → LeavesInM F n P fn tmps R (L.map mkD) .returning W
  | [], W, _, _, h => h W (Far.refl _ W)
  | D :: L, W, hn, hL, h => by
    have hD := hL D (List.mem_cons_self ..)
    refine ⟨by simp, .inl ⟨D, _, rfl, run_takeDeferred hD, leave_list L _ (List.nodup_cons.1 hn).2 (fun X hX => ?_) fun W' hf => h W' ?_⟩⟩
    · refine (World.putObj_heap_other ?_).trans (hL X (List.mem_cons_of_mem _ hX))
      intro e
      subst e
      exact (List.nodup_cons.1 hn).1 hX
    · exact ((putObj_far W D _).mono (G := fun k => k ∈ D :: L) fun k _ e => by rw [e]; exact List.mem_cons_self ..).trans (hf.mono (G := fun k => k ∈ D :: L) fun k _ e => List.mem_cons_of_mem _ e) fun _ _ h => h
theorem leave_marks {F : Fence} {n : Nat} {P : Program} {fn : Func} {tmps : Array Value} {R : Ending → World → Prop} {W : World} {B : Nat} {ds : List Deferred} (hm : Marks W B ds)
    (h : ∀ W', Far (fun k => B ≤ k ∧ W.heap[k]? = some (.deferred (some []))) W W' → ∃ v, (results fn tmps).run P W' = .ok v W' ∧ R (.returned v) W') : LeavesInM F n P fn tmps R ds .returning W := by
  obtain ⟨L, rfl, hn, hL⟩ := hm
  exact leave_list L W hn (fun D hD => (hL D hD).2.2) fun W' hf => h W' (hf.mono fun k _ e => ⟨(hL k e).1, (hL k e).2.2⟩)
/-- What a block of cells is, it stays on the way out. -/
theorem Bk.shut {W W' : World} {B g : Nat} {t : TypeId} {cs : Array Value} (h : Bk W g t cs) (hf : Far (fun k => B ≤ k ∧ W.heap[k]? = some (.deferred (some []))) W W') : Bk W' g t cs :=
  h.far' hf fun e => by have := e.2; rw [show W.heap[g]? = _ from h] at this; cases this
/-- The slots of a list, written anew. -/
def putS (T : Array Value) (sl : List Nat) (u : Nat → Value) : Array Value := sl.foldl (fun t i => t.setIfInBounds i (u i)) T
def getS (a : Act) : Nat → Value := fun i => a.tmps.getD i undef
/-- A loop, its frame told by slots, its deferred calls whatever they are. -/
theorem wp_loop_d {P : Program} {c : Code} {Q : Exit → Act → World → Prop} (sl : List Nat) (R : (Nat → Value) → List Deferred → World → Prop) (μ : (Nat → Value) → World → Nat) {T : Array Value} {ds : List Deferred} {w : World}
    (hT : putS T sl (fun i => T.getD i undef) = T) (h0 : R (fun i => T.getD i undef) ds w)
    (round : ∀ (u : Nat → Value) (d : List Deferred) (W : World), R u d W → c.wp P (Exit.then (fun a' W' => R (getS a') a'.defers W' ∧ μ (getS a') W' < μ u W ∧ a'.tmps = putS T sl (getS a')) Q) { tmps := putS T sl u, defers := d } W) :
    (Code.loop c).wp P Q { tmps := T, defers := ds } w := by
  refine wp_loop (fun a W => ∃ u d, R u d W ∧ a = { tmps := putS T sl u, defers := d } ∧ μ u W = μ (getS a) W ∧ True) (fun a W => μ (getS a) W) ⟨_, _, h0, by rw [hT], ?_, trivial⟩ ?_
  · rfl
  · rintro a W ⟨u, d, hR, rfl, hm, _⟩
    refine Code.wp_mono ?_ (round u d W hR)
    intro e a' W' h
    cases e with
    | normal =>
      obtain ⟨h1, h2, h3⟩ := h
      refine ⟨⟨getS a', a'.defers, h1, ?_, rfl, trivial⟩, by rw [← hm]; exact h2⟩
      cases a'
      simp only [Act.mk.injEq, and_true]
      exact h3
    | _ => exact h
/-- Open marks of a world are open still. -/
def DefK (A C : World) : Prop := A.heap.size ≤ C.heap.size ∧ ∀ k : Nat, A.heap[k]? = some (.deferred (some [])) → C.heap[k]? = some (.deferred (some []))
theorem DefK.refl (A : World) : DefK A A := ⟨Nat.le_refl _, fun _ h => h⟩
theorem DefK.far {A C D : World} {F : Nat → Prop} (h : DefK A C) (hf : Far F C D) (hF : ∀ k, F k → A.heap.size ≤ k ∨ ∃ t cs, Bk C k t cs) : DefK A D := by
  refine ⟨Nat.le_trans h.1 hf.size, fun k hk => ?_⟩
  have hlt := (Array.getElem?_eq_some_iff.1 hk).1
  have hc := h.2 k hk
  refine (hf.block k (Nat.lt_of_lt_of_le hlt h.1) fun e => ?_).trans hc
  rcases hF k e with h1 | ⟨t, cs, hb⟩
  · omega
  · rw [show C.heap[k]? = _ from hb] at hc
    cases hc
theorem Marks.defk {A C : World} {B : Nat} {ds : List Deferred} (h : Marks A B ds) (hd : DefK A C) : Marks C B ds := by
  obtain ⟨L, e, hn, hL⟩ := h
  exact ⟨L, e, hn, fun D hD => ⟨(hL D hD).1, Nat.lt_of_lt_of_le (hL D hD).2.1 hd.1, hd.2 D (hL D hD).2.2⟩⟩
/-! A list in memory, nil too, whoever made it; what is appended to a list of the call's own. -/
/-- The slice v lists m elements of sz cells each: xs. -/
def Src (w : World) (sz : Nat) (v : Value) (m : Nat) (xs : List Value) : Prop :=
  xs.length = m * sz ∧ ((v = .slice none 0 0 ∧ m = 0) ∨ ∃ a c, v = .slice (some a) m c ∧ ∀ j u, xs[j]? = some u → a.block < w.heap.size ∧ w.cell? (a.add j) = some u)
theorem add_blockQ (a : Addr) (n : Nat) : (a.add n).block = a.block := by unfold Addr.add; split <;> rfl
theorem Src.far {w w' : World} {F : Nat → Prop} {sz m : Nat} {v : Value} {xs : List Value} (h : Src w sz v m xs) (hf : Far F w w') (hF : ∀ a n c, v = .slice (some a) n c → ¬ F a.block) : Src w' sz v m xs := by
  obtain ⟨h1, h2 | ⟨a, c, rfl, h2⟩⟩ := h
  · exact ⟨h1, .inl h2⟩
  · refine ⟨h1, .inr ⟨a, c, rfl, fun j u hu => ?_⟩⟩
    obtain ⟨hb, hc⟩ := h2 j u hu
    exact ⟨Nat.lt_of_lt_of_le hb hf.size, (cell_eq (by rw [add_blockQ]; exact hf.block _ hb (hF _ _ _ rfl))).trans hc⟩
theorem Src.move {w w' : World} {sz m : Nat} {v : Value} {xs : List Value} (h : Src w sz v m xs) (hf : Far (fun _ => False) w w') : Src w' sz v m xs := h.far hf fun _ _ _ _ h => h
theorem Src.nil (w : World) (sz : Nat) : Src w sz (.slice none 0 0) 0 [] := ⟨by simp, .inl ⟨rfl, rfl⟩⟩
theorem Src.own {w : World} {base sz m : Nat} {e : TypeId} {v : Value} {xs : List Value} (h : w.ownsRow base e sz v m xs) : Src w sz v m xs := by
  refine ⟨h.1, ?_⟩
  rcases h.2 with ⟨rfl, rfl⟩ | ⟨g, cap, cur, rfl, _, hg, _⟩
  · exact .inl ⟨rfl, rfl⟩
  · exact .inr ⟨_, _, rfl, fun j u hu => ⟨(Array.getElem?_eq_some_iff.1 hg).1, h.cells (g := g) rfl j u hu⟩⟩
theorem Src.form {w : World} {sz m : Nat} {v : Value} {xs : List Value} (h : Src w sz v m xs) : ∃ ao c, v = .slice ao m c := by
  rcases h.2 with ⟨rfl, rfl⟩ | ⟨a, c, rfl, _⟩
  · exact ⟨none, 0, rfl⟩
  · exact ⟨_, _, rfl⟩
/-- Where there is an element, the list lies at an address without a spot. -/
theorem Src.at {w : World} {sz m : Nat} {v : Value} {xs : List Value} (h : Src w sz v m xs) (hn : 0 < xs.length) : ∃ b off c, v = .slice (some ⟨b, off, none⟩) m c ∧ b < w.heap.size ∧ ∀ j u, xs[j]? = some u → w.cell? ⟨b, off + j, none⟩ = some u := by
  obtain ⟨h1, ⟨_, rfl⟩ | ⟨⟨b, off, spot⟩, c, rfl, h2⟩⟩ := h
  · rw [h1] at hn; simp at hn
  · have hs : spot = none := by
      obtain ⟨_, e0⟩ := h2 0 _ (List.getElem?_eq_getElem hn)
      cases spot with
      | none => rfl
      | some x =>
        simp only [Addr.add, if_true, World.cell?] at e0
        split at e0 <;> simp at e0
    subst hs
    refine ⟨b, off, c, rfl, (h2 0 _ (List.getElem?_eq_getElem hn)).1, fun j u hu => ?_⟩
    have := (h2 j u hu).2
    have e : (⟨b, off, none⟩ : Addr).add j = ⟨b, off + j, none⟩ := by simp [Addr.add]
    rwa [e] at this
theorem wpList_ldV {ops : Array Oper} {rest : List Oper} {o : Oper} {a : Act} {w : World} {Q : Exit → Act → World → Prop} (hgd : Region.wanted o (yielded ops a.tmps) = true) (x : Operand) (ho : o.op = .load 160 x)
    (g : Nat) (hx : a.eval x = .pointer (some ⟨g, 0, none⟩)) {V : Nat → Value} (hg : Bk w g 160 (Vw V))
    (h : wpList Tryz.prog ops Q rest (a.put o.dst (.agg (Vw V))) w) : wpList Tryz.prog ops Q (o :: rest) a w :=
  wpList_want hgd fun _ hK => wp_load_row 160 x ho g hx 160 (Vw V) (0, 0) _ hg rowsType rfl (by rw [rowsSize, Vw_size]) (hK _ _ h)
section
variable {P : Program} (w : World)
theorem app_none (base : Nat) (t ty e : TypeId) (i : TypeInfo) (sz : Nat) (ht : P.underlying t = some (.slice e)) (hi : P.info? e = some i) (v : Value) (n : Nat) (xs : List Value) (hown : w.ownsRow base e sz v n xs) :
    (Builtin.append_ #[t, t] ty #[v, .slice none 0 0]).run P w = .ok v w := by
  rcases hown.2 with ⟨hv, hn⟩ | ⟨g, cap, cur, hv, _, _, hle, _⟩
  · subst hv hn
    simp [Builtin.append_, run_underlying ht, sizeOf, typeInfo, hi, Builtin.lenOf, Builtin.firstCells]
  · subst hv
    simp [Builtin.append_, run_underlying ht, sizeOf, typeInfo, hi, Builtin.lenOf, Builtin.firstCells, hle, storeCells]
/-- append(own, list...). -/
theorem app_src (base : Nat) (t ty e : TypeId) (i : TypeInfo) (z : Value) (sz by_ : Nat) (ht : P.underlying t = some (.slice e)) (hi : P.info? e = some i) (hz : i.zero = some z) (hsize : i.size = sz) (hby : i.bytes = by_) (hzs : z.cells.size = sz) (hsz : 0 < sz)
    (v : Value) (n : Nat) (xs : List Value) (hown : w.ownsRow base e sz v n xs) (s : Value) (m : Nat) (news : List Value) (hs : Src w sz s m news) (h1 : ∀ u ∈ news, u.oneCell' = true) (h63 : n + m ≤ maxLen) (hbytes : (n + m) * by_ ≤ 140737488355328) (hbase : base ≤ w.heap.size) :
    ∃ v' w', (Builtin.append_ #[t, t] ty #[v, s]).run P w = .ok v' w' ∧ w'.ownsRow base e sz v' (n + m) (xs ++ news) ∧ w.grownBy w' v.ownBlock := by
  obtain ⟨hl, ⟨rfl, rfl⟩ | ⟨a, c, rfl, hc⟩⟩ := hs
  · have hnews : news = [] := by cases news with
      | nil => rfl
      | cons x l => simp at hl
    subst hnews
    exact ⟨v, w, app_none w base t ty e i sz ht hi v n xs hown, by rw [Nat.add_zero, List.append_nil]; exact hown, World.grownBy.refl w _⟩
  · obtain ⟨v', w', hr, h2, h3, _⟩ := run_append_own (P := P) w base t ty e i z sz by_ ht hi hz hsize hby hzs hsz v n xs hown a m c news hl (fun j u hu => (hc j u hu).2) h1 h63 hbytes hbase
    exact ⟨v', w', hr, h2, h3⟩
theorem wp_app_src {o : Oper} {a : Act} {K : Act → World → Prop} {Q : Exit → Act → World → Prop} (x y : Operand) (t : TypeId) (ho : o.op = .call { callee := .builtin .append, args := #[x, y], argTypes := #[t, t] })
    (base : Nat) (e : TypeId) (i : TypeInfo) (z : Value) (sz by_ : Nat) (ht : P.underlying t = some (.slice e)) (hi : P.info? e = some i) (hz : i.zero = some z) (hsize : i.size = sz) (hby : i.bytes = by_) (hzs : z.cells.size = sz) (hsz : 0 < sz)
    (v : Value) (n : Nat) (xs : List Value) (hx : a.eval x = v) (hown : w.ownsRow base e sz v n xs) (s : Value) (m : Nat) (news : List Value) (hy : a.eval y = s) (hs : Src w sz s m news) (h1 : ∀ u ∈ news, u.oneCell' = true) (h63 : n + m ≤ maxLen) (hbytes : (n + m) * by_ ≤ 140737488355328) (hbase : base ≤ w.heap.size)
    (h : ∀ v' w', w'.ownsRow base e sz v' (n + m) (xs ++ news) → w.grownBy w' v.ownBlock → K (a.put o.dst v') w') : o.wp P a w K Q := by
  obtain ⟨v', w', hr, h2, h3⟩ := app_src (P := P) w base t o.type e i z sz by_ ht hi hz hsize hby hzs hsz v n xs hown s m news hs h1 h63 hbytes hbase
  unfold Oper.wp execOp
  simp only [ho, resolve, invoke, builtin, Sem.run_bind, Sem.run_pure, Result.andThen_ok, List.map_toArray, List.map_cons, List.map_nil, hx, hy, hr]
  exact h v' w' h2 h3
end
theorem wpList_app {P : Program} {w : World} {ops : Array Oper} {rest : List Oper} {o : Oper} {a : Act} {Q : Exit → Act → World → Prop} (hgd : o.guard = none) (x y : Operand) (t : TypeId) (ho : o.op = .call { callee := .builtin .append, args := #[x, y], argTypes := #[t, t] })
    (base : Nat) (e : TypeId) (i : TypeInfo) (z : Value) (sz by_ : Nat) (ht : P.underlying t = some (.slice e)) (hi : P.info? e = some i) (hz : i.zero = some z) (hsize : i.size = sz) (hby : i.bytes = by_) (hzs : z.cells.size = sz) (hsz : 0 < sz)
    (v : Value) (n : Nat) (xs : List Value) (hx : a.eval x = v) (hown : w.ownsRow base e sz v n xs) (s : Value) (m : Nat) (news : List Value) (hy : a.eval y = s) (hs : Src w sz s m news) (h1 : ∀ u ∈ news, u.oneCell' = true) (h63 : n + m ≤ maxLen) (hbytes : (n + m) * by_ ≤ 140737488355328) (hbase : base ≤ w.heap.size)
    (h : ∀ v' w', w'.ownsRow base e sz v' (n + m) (xs ++ news) → w.grownBy w' v.ownBlock → wpList P ops Q rest (a.put o.dst v') w') : wpList P ops Q (o :: rest) a w :=
  wpList_plain hgd fun _ hK => wp_app_src w x y t ho base e i z sz by_ ht hi hz hsize hby hzs hsz v n xs hx hown s m news hy hs h1 h63 hbytes hbase fun v' w' h2 h3 => hK _ _ (h v' w' h2 h3)
theorem step_app {P : Program} {w : World} {ops : Array Oper} {o : Oper} {a : Act} {K : Act → World → Prop} {Q : Exit → Act → World → Prop} {E : Prop} (hgd : o.guard = none) (x y : Operand) (t : TypeId) (ho : o.op = .call { callee := .builtin .append, args := #[x, y], argTypes := #[t, t] })
    (base : Nat) (e : TypeId) (i : TypeInfo) (z : Value) (sz by_ : Nat) (ht : P.underlying t = some (.slice e)) (hi : P.info? e = some i) (hz : i.zero = some z) (hsize : i.size = sz) (hby : i.bytes = by_) (hzs : z.cells.size = sz) (hsz : 0 < sz)
    (v : Value) (n : Nat) (xs : List Value) (hx : a.eval x = v) (hown : w.ownsRow base e sz v n xs) (s : Value) (m : Nat) (news : List Value) (hy : a.eval y = s) (hs : Src w sz s m news) (h1 : ∀ u ∈ news, u.oneCell' = true) (h63 : n + m ≤ maxLen) (hbytes : (n + m) * by_ ≤ 140737488355328) (hbase : base ≤ w.heap.size)
    (h : ∀ v' w', w'.ownsRow base e sz v' (n + m) (xs ++ news) → w.grownBy w' v.ownBlock → K (a.put o.dst v') w') : if Region.wanted o (yielded ops a.tmps) = true then Oper.wp P o a w K Q else E := by
  have hw : Region.wanted o (yielded ops a.tmps) = true := by simp [Region.wanted, hgd]
  rw [if_pos hw]
  exact wp_app_src w x y t ho base e i z sz by_ ht hi hz hsize hby hzs hsz v n xs hx hown s m news hy hs h1 h63 hbytes hbase h
theorem wpList_app_none {P : Program} {w : World} {ops : Array Oper} {rest : List Oper} {o : Oper} {a : Act} {Q : Exit → Act → World → Prop} (hgd : o.guard = none) (x y : Operand) (t : TypeId) (ho : o.op = .call { callee := .builtin .append, args := #[x, y], argTypes := #[t, t] })
    (base : Nat) (e : TypeId) (i : TypeInfo) (sz : Nat) (ht : P.underlying t = some (.slice e)) (hi : P.info? e = some i) (v : Value) (n : Nat) (xs : List Value) (hx : a.eval x = v) (hown : w.ownsRow base e sz v n xs) (hy : a.eval y = .slice none 0 0)
    (h : wpList P ops Q rest (a.put o.dst v) w) : wpList P ops Q (o :: rest) a w :=
  wpList_plain hgd fun _ hK => by
    have hr := app_none (P := P) w base t o.type e i sz ht hi v n xs hown
    unfold Oper.wp execOp
    simp only [ho, resolve, invoke, builtin, Sem.run_bind, Sem.run_pure, Result.andThen_ok, List.map_toArray, List.map_cons, List.map_nil, hx, hy, hr]
    exact hK _ _ h
end Go.Proofs.YtjolkhiggcmoiaaGreatDoor
/-! ## QCells: cells: those of a strip of leaves, row by row. -/
namespace Go.Proofs.YtjolkhiggcmoiaaGreatDoor
open Go.RowKit Go.Shelf
set_option linter.unusedVariables false
set_option linter.unusedSimpArgs false
attribute [local go_sem] Oper.semAt_some
theorem cellInfo : (Tryz.prog.info? 71).map (fun i => (i.zero, i.size, i.bytes)) = some (some (.agg #[.int .i64 0, .int .i64 0]), 2, 16) := by kernel_rfl
section
set_option maxHeartbeats 8000000
set_option maxRecDepth 100000
theorem qcells_any (M : Nat → Nat → Bool) (g o cap : Nat) (S : List (Nat × Nat)) (hS : S.length ≤ 256) (w : World) (hrow : ∀ k p, S[k]? = some p → w.rangeAt g (o + k * 66) (srow M p)) (hg : g < w.heap.size) (hp : ∀ p ∈ S, p.1 < 16 ∧ p.2 < 16) (hT : Tab w) :
    Calls Tryz.prog 75 #[.slice (some ⟨g, o, none⟩) S.length cap] w fun e w' => ∃ v, e = .returned v ∧ w'.ownsRow w.heap.size 71 2 v (cellsS M S).length (ccells (cellsS M S)) ∧ Far (fun _ => False) w w' ∧ (cellsS M S).length ≤ 67108864 := by
  have hzr : ∀ w, (zeroValue 160).run Tryz.prog w = .ok (.agg (Vw fun _ => .slice none 0 0)) w := (zero_of_info rowsZero).1
  have hzs : ∀ w, (zeroValue 131).run Tryz.prog w = .ok (.agg (spt 0 0 fun _ => 0)) w := (zero_of_info spotZero).1
  obtain ⟨bR, hbR⟩ : ∃ h, h = w.heap.size := ⟨_, rfl⟩
  obtain ⟨bN, hbN⟩ : ∃ h, h = bR + 1 := ⟨_, rfl⟩
  obtain ⟨W0, hW0⟩ : ∃ V, V = (w.alloc (.cells (Vw fun _ => .slice none 0 0) 160)).alloc (.cells #[.int .i64 0] 3) := ⟨_, rfl⟩
  have hf0 : Far (fun _ => False) w W0 := hW0 ▸ ((Far.refl _ w).alloc _).alloc _
  have hz0 : W0.heap.size = bN + 1 := by rw [hW0]; simp [hbN, hbR]
  have hR0 : RowsP w.heap.size bR bN (fun _ => .slice none 0 0) (stripL M (S.take 0)) 0 W0 := by
    refine ⟨hW0 ▸ (Bk.new hbR).alloc _, hW0 ▸ Bk.new (by simp [hbN, hbR]), fun a ha => ?_, (fun a a' _ _ _ k hk => by cases hk), (fun a => ?_), fun _ _ => rfl⟩
    · have e : stripL M (S.take 0) a = [] := by rw [List.take_zero]; exact stripL_nil M a
      rw [e]
      exact ⟨rfl, .inl ⟨rfl, rfl⟩⟩
    · have e : stripL M (S.take 0) a = [] := by rw [List.take_zero]; exact stripL_nil M a
      rw [e]; exact Nat.le_refl _
  have hbR' := Lib.hid hbR
  have hbN' := Lib.hid hbN
  have hW0' := Lib.hid hW0
  have hf0' := Lib.hid hf0
  have hz0' := Lib.hid hz0
  have hR0' := Lib.hid hR0
  clear hbR hbN hW0 hf0 hz0 hR0
  refine (callsIn_wide (n := 10)).1 (callsIn_of_wp_marks Tryz.func75 rfl trivial (wpIn_wide.2 ?_) rfl)
  simp only [Tryz.ntmps75, List.size_toArray, List.length_cons, List.length_nil, Nat.reduceAdd, Nat.reduceSub, Array.replicate_succ, Array.replicate_zero, List.push_toArray, List.append_toArray, List.nil_append, List.cons_append]
  go_upto_region 3 with fail
  rw [← hbR'.out, ← hbN'.out, ← hW0'.out]
  go_wp2_with fail
  refine wp_loop_d [6, 14, 15, 16, 17, 18, 19, 20, 49] (fun u ds W => ∃ (k : Nat) (V : Nat → Value) (N : Nat), u 14 = .int .i64 (k : Nat) ∧ k ≤ S.length ∧ RowsP w.heap.size bR bN V (stripL M (S.take k)) N W ∧ N ≤ 4096 * k ∧ Far (fun _ => False) w W ∧ Marks W w.heap.size ds) (fun u _ => S.length - (intOf (u 14)).toNat) (by kernel_rfl) ?start ?round
  case start => exact ⟨0, _, 0, rfl, Nat.zero_le _, hR0'.out, Nat.zero_le _, hf0'.out, Marks.nil _ _⟩
  case round =>
    clear hR0' hf0' hz0' hW0'
    rintro u ds wr ⟨k, V, N, hu, hk, hR, hN, hf, hds⟩
    simp only [putS, List.foldl_cons, List.foldl_nil, List.setIfInBounds_toArray, List.set_cons_zero, List.set_cons_succ, hu]
    have hR' := Lib.hid hR
    have hf' := Lib.hid hf
    have hds' := Lib.hid hds
    by_cases hkt : k < S.length
    · have e3 : decide ((k : Int) < (S.length : Int)) = true := by rw [decide_eq_true_eq]; omega
      have hkk : (k : Int) < (S.length : Int) := by omega
      obtain ⟨p, hpe⟩ : ∃ p, S[k]? = some p := ⟨S[k], List.getElem?_eq_getElem hkt⟩
      have hpm := hp p (List.mem_of_getElem? hpe)
      have hr : wr.rangeAt g (o + k * 66) (spt p.1 p.2 (blk (sub M p.1 p.2))).toList := range_far (hrow k p hpe) hf
      have hpe' := Lib.hid hpe
      clear hR hf hds hpe
      go_upto_region 6 with (first | (refine wpList_sp rfl _ rfl _ _ rfl hr ?_) | (refine wpList_spst rfl _ _ rfl _ rfl rfl (Bk.new rfl) (spt_size _ _ _) ?_))
      rw [World.setRow_alloc_new]
      obtain ⟨b6, hb6⟩ : ∃ b, b = wr.heap.size := ⟨_, rfl⟩
      obtain ⟨W1, hW1⟩ : ∃ V, V = wr.alloc (.cells (spt p.1 p.2 (blk (sub M p.1 p.2))) 131) := ⟨_, rfl⟩
      rw [← hb6, ← hW1]
      have hfa : Far (fun _ => False) wr W1 := hW1 ▸ (Far.refl _ wr).alloc _
      have hb : SpB W1 b6 (spt p.1 p.2 (blk (sub M p.1 p.2))) := hW1 ▸ Bk.new hb6
      have x2 := SpB.leaf hb
      obtain ⟨bx, hbx⟩ : ∃ b, b = W1.heap.size := ⟨_, rfl⟩
      have hb' := Lib.hid hb
      have hfa' := Lib.hid hfa
      have hbx' := Lib.hid hbx
      have hb6' := Lib.hid hb6
      clear hb6 hW1 hfa hb hbx hr
      go_wp2_with (first | (refine wpList_lf rfl _ rfl _ _ rfl x2 ?_) | (refine (bcells_any _ _).mono ?_; rintro e W2 ⟨rfl, hW2⟩; rw [← hbx'.out]; have hW2' := Lib.hid hW2; clear hW2 x2))
      have hf2 : Far (fun _ => False) W1 W2 := hW2'.out ▸ (Far.refl _ W1).alloc _
      have hbx2 : Hold W2 bx (Rw (blk (sub M p.1 p.2))) := hW2'.out ▸ Hold.new hbx'.out
      have hf12 : Far (fun _ => False) wr W2 := hfa'.out.then hf2
      have hT2 : Tab W2 := (hT.still hf'.out).still hf12
      have hsz2 : w.heap.size ≤ W2.heap.size := Nat.le_trans hf'.out.size hf12.size
      have hb2 := Lib.hid (hb'.out.far' hf2 id)
      have hR2 := Lib.hid (hR'.out.still hf12)
      have hds2 := Lib.hid (hds'.out.far hf12 fun _ _ _ q => q)
      have hfw2 := Lib.hid (hf'.out.then hf12)
      have hBN := Lib.hid (show bR = w.heap.size ∧ bN = w.heap.size + 1 by have := hbR'.out; have := hbN'.out; omega)
      refine range_bc (q := 7) (blk (sub M p.1 p.2)) (blk_wf _) bx hbx2 hT2 rfl
        (fun pre X => ∃ V N, RowsP w.heap.size bR bN V (pre.foldl (addC p) (stripL M (S.take k))) N X ∧ N ≤ 4096 * k + pre.length ∧ Far (fun _ => False) w X ∧ SpB X b6 (spt p.1 p.2 (blk (sub M p.1 p.2))) ∧ DefK W2 X) ?own ⟨V, N, hR2.out, by simpa using hN, hfw2.out, hb2.out, DefK.refl _⟩ ?sz
        (fun q x pre X => ∃ V N, RowsP w.heap.size bR bN V (pre.foldl (addC p) (stripL M (S.take k))) N X ∧ N ≤ 4096 * k + pre.length ∧ Far (fun _ => False) w X ∧ SpB X b6 (spt p.1 p.2 (blk (sub M p.1 p.2))) ∧ DefK W2 X ∧ Bk X q 71 #[.int .i64 (x.1 : Nat), .int .i64 (x.2 : Nat)] ∧ W2.heap.size ≤ q ∧ ∀ a, a < 64 → (V a).ownBlock ≠ some q) ?ownq ?mk ?assign ?body ?done
      case own =>
        rintro pre A C row ⟨V, N, h1, h2, h3, h4, h5⟩ hg hr
        exact ⟨V, N, h1.grown hg fun r e => (hr r e).2, h2, h3.grown hg fun q hq e => absurd (hr q e).1 (by omega), bk_other h4 (grown_F hg) (fun q e => (hr q e).2), h5.far (grown_F hg) fun q e => .inl (hr q e).1⟩
      case sz =>
        rintro pre X ⟨V, N, h1, h2, h3, h4, h5⟩
        exact h5.1
      case ownq =>
        rintro q x pre A C row ⟨V, N, h1, h2, h3, h4, h5, h6, h7, h8⟩ hg hr
        exact ⟨V, N, h1.grown hg fun r e => (hr r e).2, h2, h3.grown hg fun q hq e => absurd (hr q e).1 (by omega), bk_other h4 (grown_F hg) (fun q e => (hr q e).2), h5.far (grown_F hg) (fun q e => .inl (hr q e).1), bk_other h6 (grown_F hg) (fun q e => (hr q e).2), h7, h8⟩
      case mk =>
        rintro x pre X hpre ⟨V, N, h1, h2, h3, h4, h5⟩
        have hfX : Far (fun _ => False) X (X.alloc (.cells #[.int .i64 (x.1 : Nat), .int .i64 (x.2 : Nat)] 71)) := (Far.refl _ X).alloc _
        exact ⟨V, N, h1.still hfX, h2, h3.then hfX, h4.far' hfX id, h5.far hfX (fun _ q => q.elim), Bk.new rfl, h5.1, fun a ha e => by have := ((h1.row a ha).lt _ e).2; omega⟩
      case assign =>
        intro L x X KK hKK
        simp only [List.setIfInBounds_toArray, List.set_cons_zero, List.set_cons_succ] at hKK ⊢
        gi_wp2
        exact hKK
      case body =>
        rintro L pre x q X hLq hpre ⟨V, N, h1, h2, h3, h4, h5, h6, h7, h8⟩
        simp only [List.setIfInBounds_toArray, List.set_cons_zero, List.set_cons_succ]
        have hxm : x ∈ cellsUp (blk (sub M p.1 p.2)) 64 := hpre.subset (by simp)
        obtain ⟨hx1, hx2, _⟩ := mem_cellsUp.1 (show (x.1, x.2) ∈ cellsUp (blk (sub M p.1 p.2)) 64 from hxm)
        have hxi1 : (x.1 : Int) < 64 := by omega
        have hxi2 : (x.2 : Int) < 64 := by omega
        have hpi1 : (p.1 : Int) < 16 := by omega
        have hpi2 : (p.2 : Int) < 16 := by omega
        have hplen := hpre.length_le
        have hcle := cellsUp_le (blk (sub M p.1 p.2)) 64
        rw [List.length_append, List.length_singleton] at hplen
        obtain ⟨ao, cap0, hvx⟩ := q_form (h1.row x.1 hx1)
        obtain ⟨n0, hn0⟩ : ∃ n, n = (pre.foldl (addC p) (stripL M (S.take k)) x.1).length := ⟨_, rfl⟩
        have hn0N := h1.len x.1
        rw [← hn0] at hvx hn0N
        obtain ⟨d0, d1⟩ := SpB.at h4
        have e0 : X.cell? ⟨q, 0, none⟩ = some (.int .i64 (x.1 : Nat)) := h6.cell 0
        have e1 : X.cell? ⟨q, 1, none⟩ = some (.int .i64 (x.2 : Nat)) := h6.cell 1
        have H1 := Lib.hid h1
        have H3 := Lib.hid h3
        have H4 := Lib.hid h4
        have H5 := Lib.hid h5
        have H6 := Lib.hid h6
        have H8 := Lib.hid h8
        have hvx := Lib.hid hvx
        have hn0' := Lib.hid hn0
        clear h1 h3 h4 h5 h6 h8 hn0 hxm
        gi_wp2
        obtain ⟨k8, hk8⟩ : ∃ b, b = X.heap.size := ⟨_, rfl⟩
        obtain ⟨X8, hX8⟩ : ∃ Y, Y = X.alloc (.cells #[.int .i64 (64 * (p.1 : Int) + (x.1 : Int)), .int .i64 (64 * (p.2 : Int) + (x.2 : Int))] 71) := ⟨_, rfl⟩
        rw [← hk8, ← hX8]
        have hf8 : Far (fun _ => False) X X8 := hX8 ▸ (Far.refl _ X).alloc _
        have hB8 : Bk X8 k8 71 #[.int .i64 (64 * (p.1 : Int) + (x.1 : Int)), .int .i64 (64 * (p.2 : Int) + (x.2 : Int))] := hX8 ▸ Bk.new hk8
        have hd8 : Far (fun _ => False) X X8.drew := hf8.drew
        have hsz8 : X8.heap.size = k8 + 1 := by rw [hX8]; simp [hk8]
        obtain ⟨kE, hkE0⟩ : ∃ b, b = X8.heap.size := ⟨_, rfl⟩
        obtain ⟨XE, hXE⟩ : ∃ Y, Y = (X8.alloc (.cells #[.int .i64 (64 * (p.1 : Int) + (x.1 : Int)), .int .i64 (64 * (p.2 : Int) + (x.2 : Int))] 71)).drew := ⟨_, rfl⟩
        have hfE : Far (fun _ => False) X XE := hXE ▸ (hf8.alloc _).drew
        have hdE : Far (fun _ => False) X8 XE := hXE ▸ ((Far.refl _ X8).alloc _).drew
        have hRE := H1.out.still hfE
        obtain ⟨ci, hci, hz0, hz1, hz2⟩ := info_parts cellInfo
        have hrow : XE.ownsRow w.heap.size 71 2 (.slice ao n0 cap0) n0 (ccells (pre.foldl (addC p) (stripL M (S.take k)) x.1)) := by
          have := hRE.row x.1 hx1
          rw [hvx.out, ← hn0'.out] at this
          exact this
        have A1 := Lib.hid hrow
        have A2 := Lib.hid (show ∀ j u, [Value.int .i64 (64 * (p.1 : Int) + (x.1 : Int)), Value.int .i64 (64 * (p.2 : Int) + (x.2 : Int))][j]? = some u → XE.cell? ((⟨kE, 0, none⟩ : Addr).add j) = some u from World.news_of_block (cs := #[.int .i64 (64 * (p.1 : Int) + (x.1 : Int)), .int .i64 (64 * (p.2 : Int) + (x.2 : Int))]) (t := 71) (fr := (0, 0)) (by rw [hXE, hkE0]; exact heap_alloc_new X8 _))
        have A3 := Lib.hid (show ∀ u ∈ [Value.int .i64 (64 * (p.1 : Int) + (x.1 : Int)), Value.int .i64 (64 * (p.2 : Int) + (x.2 : Int))], u.oneCell' = true by simp [Value.oneCell'])
        have A4 : n0 + 1 ≤ maxLen := by unfold maxLen; omega
        have A5 : (n0 + 1) * 16 ≤ 140737488355328 := by omega
        have A6 : w.heap.size ≤ XE.heap.size := Nat.le_trans H3.out.size hfE.size
        have hown0 : (V x.1).ownBlock = (Value.slice ao n0 cap0).ownBlock := by rw [hvx.out]
        have nR : some bR ≠ (Value.slice ao n0 cap0).ownBlock := fun e => q_row_ne hRE.box hrow (by decide) e.symm
        have nN : some bN ≠ (Value.slice ao n0 cap0).ownBlock := fun e => q_row_ne hRE.num hrow (by decide) e.symm
        have nq : some q ≠ (Value.slice ao n0 cap0).ownBlock := fun e => H8.out x.1 hx1 (by rw [hown0]; exact e.symm)
        have n8 : some k8 ≠ (Value.slice ao n0 cap0).ownBlock := fun e => by
          have := ((H1.out.row x.1 hx1).lt k8 (by rw [hown0]; exact e.symm)).2
          omega
        have B1 := Lib.hid (show ∀ W5, XE.grownBy W5 (Value.slice ao n0 cap0).ownBlock → Bk W5 q 71 #[.int .i64 (x.1 : Nat), .int .i64 (x.2 : Nat)] from fun W5 hg => qb_grown (H6.out.far' hfE id) hg nq)
        have B2 := Lib.hid (show ∀ W5, XE.grownBy W5 (Value.slice ao n0 cap0).ownBlock → Bk W5 k8 71 #[.int .i64 (64 * (p.1 : Int) + (x.1 : Int)), .int .i64 (64 * (p.2 : Int) + (x.2 : Int))] from fun W5 hg => qb_grown (hB8.far' hdE id) hg n8)
        have B3 := Lib.hid (show q ≠ bR from fun e => absurd (bk_type H6.out (e ▸ H1.out.box)) (by decide))
        have B4 := Lib.hid (show k8 ≠ bR from fun e => by have := H1.out.box.lt; omega)
        have B5 := Lib.hid (show bN ≠ bR from fun e => absurd (bk_type H1.out.num (e ▸ H1.out.box)) (by decide))
        have A7 := Lib.hid (show ∀ W5, XE.grownBy W5 (Value.slice ao n0 cap0).ownBlock → (fun w' : World => w'.cell? ⟨q, 0, none⟩ = some (.int .i64 (x.1 : Nat)) ∧ w'.cell? ⟨k8, 0, none⟩ = some (.int .i64 (64 * (p.1 : Int) + (x.1 : Int))) ∧ w'.cell? ⟨k8, 1, none⟩ = some (.int .i64 (64 * (p.2 : Int) + (x.2 : Int)))) W5 from fun W5 hg => ⟨(B1.out W5 hg).cell 0, (B2.out W5 hg).cell 0, (B2.out W5 hg).cell 1⟩)
        have A8 := Lib.hid (show ∀ W5, XE.grownBy W5 (Value.slice ao n0 cap0).ownBlock → Bk W5 bR 160 (Vw V) from fun W5 hg => qb_grown hRE.box hg nR)
        have A9 := Lib.hid (show ∀ W5, XE.grownBy W5 (Value.slice ao n0 cap0).ownBlock → Bk W5 bN 3 #[.int .i64 (N : Nat)] from fun W5 hg => qb_grown hRE.num hg nN)
        have c5 : X8.drew.cell? ⟨bR, x.1, none⟩ = some (.slice ao n0 cap0) := by rw [← hvx.out]; exact (H1.out.still hd8).at hx1
        have c5E : XE.cell? ⟨bR, x.1, none⟩ = some (.slice ao n0 cap0) := by rw [← hvx.out]; exact hRE.at hx1
        have SE : (fun w' : World => w'.cell? ⟨q, 0, none⟩ = some (.int .i64 (x.1 : Nat)) ∧ w'.cell? ⟨k8, 0, none⟩ = some (.int .i64 (64 * (p.1 : Int) + (x.1 : Int))) ∧ w'.cell? ⟨k8, 1, none⟩ = some (.int .i64 (64 * (p.2 : Int) + (x.2 : Int)))) XE := A7.out XE (World.grownBy.refl XE _)
        have hSE := Lib.hid SE
        have hXE' := Lib.hid hXE
        have hkE := Lib.hid (show XE.heap.size = kE + 1 ∧ X8.heap.size = kE from ⟨by rw [hXE, hkE0]; exact World.size_alloc X8 _, hkE0.symm⟩)
        have hRE' := Lib.hid hRE
        have hfE' := Lib.hid hfE
        have PST : Hid (∀ g5 cap5 W5 W6, W5.ownsRow w.heap.size 71 2 (.slice (some ⟨g5, 0, none⟩) (n0 + 1) cap5) (n0 + 1) (ccells (pre.foldl (addC p) (stripL M (S.take k)) x.1) ++ [.int .i64 (64 * (p.1 : Int) + (x.1 : Int)), .int .i64 (64 * (p.2 : Int) + (x.2 : Int))]) → XE.grownBy W5 (Value.slice ao n0 cap0).ownBlock → ((Value.slice ao n0 cap0).ownBlock = some g5 ∨ g5 = kE + 1) →
            W6 = W5.setCell ⟨bR, x.1, none⟩ (.slice (some ⟨g5, 0, none⟩) (n0 + 1) cap5) → ∀ a9, ownPostG W2.heap.size (KeepS TabK) (fun pre X => ∃ V N, RowsP w.heap.size bR bN V (pre.foldl (addC p) (stripL M (S.take k))) N X ∧ N ≤ 4096 * k + pre.length ∧ Far (fun _ => False) w X ∧ SpB X b6 (spt p.1 p.2 (blk (sub M p.1 p.2))) ∧ DefK W2 X) (fun _ _ _ => False) (pre ++ [x]) X .normal a9 (W6.setCell ⟨bN, 0, none⟩ (.int .i64 ((N : Int) + 1)))) := by
          refine Lib.hid ?_
          intro g5 cap5 W5 W6 ho5 hg5 hat5 hW6 a9
          have hc1 : 64 * (p.1 : Int) + (x.1 : Int) = ((64 * p.1 + x.1 : Nat) : Int) := by omega
          have hc2 : 64 * (p.2 : Int) + (x.2 : Int) = ((64 * p.2 + x.2 : Nat) : Int) := by omega
          have e9 : ((N : Int) + 1) = ((N + 1 : Nat) : Int) := by omega
          rw [hc1, hc2] at ho5
          have hP := RowsP.push (x := (64 * p.1 + x.1, 64 * p.2 + x.2)) (v := .slice (some ⟨g5, 0, none⟩) (n0 + 1) cap5) hRE'.out hx1 (by rw [← hn0'.out]; exact ho5) (by rw [hvx.out]; exact hg5) (fun g hg => by
            have hgg : g5 = g := Option.some.inj hg
            subst hgg
            rcases hat5 with e | e
            · exact .inl (by rw [hvx.out]; exact e)
            · exact .inr (by have := hkE.out.1; omega))
          have hS : Far (fun q' => q' = bR ∨ q' = bN ∨ (Value.slice ao n0 cap0).ownBlock = some q') X (W6.setCell ⟨bN, 0, none⟩ (.int .i64 ((N : Int) + 1))) := by
            rw [hW6]
            exact (((hfE'.out.mono (G := fun q' => q' = bR ∨ q' = bN ∨ (Value.slice ao n0 cap0).ownBlock = some q') fun _ _ h => h.elim).grown hg5 (fun k _ e => .inr (.inr e))).set ⟨bR, x.1, none⟩ _ (fun _ => .inl rfl)).set ⟨bN, 0, none⟩ _ (fun _ => .inr (.inl rfl))
          have hrX : X.ownsRow w.heap.size 71 2 (.slice ao n0 cap0) n0 (ccells (pre.foldl (addC p) (stripL M (S.take k)) x.1)) := by
            have := H1.out.row x.1 hx1
            rw [hvx.out, ← hn0'.out] at this
            exact this
          have hcB : ∀ q', (q' = bR ∨ q' = bN ∨ (Value.slice ao n0 cap0).ownBlock = some q') → ∃ cs t, Bk X q' t cs := fun q' hq => by
            rcases hq with rfl | rfl | e
            · exact ⟨_, _, H1.out.box⟩
            · exact ⟨_, _, H1.out.num⟩
            · rcases hrX.2 with ⟨e1, _⟩ | ⟨g', cap, cur, e1, _, hg1, _⟩
              · rw [e1] at e; cases e
              · rw [e1] at e
                have : g' = q' := Option.some.inj e
                subst this
                exact ⟨_, _, hg1⟩
          have hlow : ∀ q', (q' = bR ∨ q' = bN ∨ (Value.slice ao n0 cap0).ownBlock = some q') → w.heap.size ≤ q' := fun q' hq => by
            rcases hq with rfl | rfl | e
            · have := hBN.out; omega
            · have := hBN.out; omega
            · exact (hrX.lt q' e).1
          refine ⟨keeps_far hS hcB, ⟨KeepK.of_far hS fun q' e => ?_, hS.size⟩, updV V x.1 (.slice (some ⟨g5, 0, none⟩) (n0 + 1) cap5), N + 1, ?_, ?_, H3.out.trans hS fun i hi h => absurd (hlow i h) (by omega), H4.out.far' hS ?_, H5.out.far hS fun q' e => .inr ?_⟩
          · have e' : q' = 0 := e
            subst e'
            exact ⟨Nat.lt_of_lt_of_le hT.lt H3.out.size, fun h => absurd (hlow _ h) (by have := hT.lt; omega)⟩
          · rw [fold_snoc, hW6, e9]
            exact hP
          · rw [List.length_append, List.length_singleton]; omega
          · rintro (e | e | e)
            · exact absurd (bk_type H4.out (e ▸ H1.out.box)) (by decide)
            · exact absurd (bk_type H4.out (e ▸ H1.out.num)) (by decide)
            · exact q_row_ne H4.out hrX (by decide) e
          · obtain ⟨cs, ty, hb⟩ := hcB q' e
            exact ⟨ty, cs, hb⟩
        have SD : (fun w' : World => w'.cell? ⟨q, 0, none⟩ = some (.int .i64 (x.1 : Nat)) ∧ w'.cell? ⟨k8, 0, none⟩ = some (.int .i64 (64 * (p.1 : Int) + (x.1 : Int))) ∧ w'.cell? ⟨k8, 1, none⟩ = some (.int .i64 (64 * (p.2 : Int) + (x.2 : Int)))) X8.drew := ⟨(H6.out.far' hd8 id).cell 0, (show Bk X8.drew k8 71 #[.int .i64 (64 * (p.1 : Int) + (x.1 : Int)), .int .i64 (64 * (p.2 : Int) + (x.2 : Int))] from hB8).cell 0, (show Bk X8.drew k8 71 #[.int .i64 (64 * (p.1 : Int) + (x.1 : Int)), .int .i64 (64 * (p.2 : Int) + (x.2 : Int))] from hB8).cell 1⟩
        clear hkE0 hk8 hf8 hB8 hd8 hsz8 hXE hfE hdE hRE hrow hown0 nR nN nq n8 SE hX8 e1 d0 d1
        refine region_in (S := fun w' : World => w'.cell? ⟨q, 0, none⟩ = some (.int .i64 (x.1 : Nat)) ∧ w'.cell? ⟨k8, 0, none⟩ = some (.int .i64 (64 * (p.1 : Int) + (x.1 : Int))) ∧ w'.cell? ⟨k8, 1, none⟩ = some (.int .i64 (64 * (p.2 : Int) + (x.2 : Int)))) (by kernel_rfl) (by kernel_rfl) SD (fun hS => ?_)
        refine wpAnyH_take (i := 0) (v := ?v0c1) rfl (by kernel_rfl) (by kernel_rfl) (by kernel_rfl) (fun _ _ _ h => h) (Or.inl ⟨by rfl, ?y0c1⟩) (by assumption) ?r0c1
        case y0c1 => (intro w hSw; (try dsimp only at hSw); go_simp; (try with_reducible rfl))
        simp only [Act.put, List.setIfInBounds_toArray, List.set_cons_zero, List.set_cons_succ]
        refine wpAnyH_take (i := 1) (v := ?v1c2) rfl (by kernel_rfl) (by kernel_rfl) (by kernel_rfl) (fun _ _ _ h => h) (Or.inl ⟨by rfl, ?y1c2⟩) (by assumption) ?r1c2
        case y1c2 => (intro w hSw; (try dsimp only at hSw); go_simp; (try with_reducible rfl))
        simp only [Act.put, List.setIfInBounds_toArray, List.set_cons_zero, List.set_cons_succ]
        refine wpAnyH_take (i := 2) (v := ?v2c3) rfl (by kernel_rfl) (by kernel_rfl) (by kernel_rfl) (fun _ _ _ h => h) (Or.inl ⟨by rfl, ?y2c3⟩) (by assumption) ?r2c3
        case y2c3 => (intro w hSw; (try dsimp only at hSw); go_simp; (try with_reducible rfl))
        simp only [Act.put, List.setIfInBounds_toArray, List.set_cons_zero, List.set_cons_succ]
        refine wpAnyH_take (i := 3) (v := ?v3c4) rfl (by kernel_rfl) (by kernel_rfl) (by kernel_rfl) (fun _ _ _ h => h) (Or.inl ⟨by rfl, ?y3c4⟩) (by assumption) ?r3c4
        case y3c4 => (intro w hSw; (try dsimp only at hSw); go_simp; (try with_reducible rfl))
        simp only [Act.put, List.setIfInBounds_toArray, List.set_cons_zero, List.set_cons_succ]
        refine wpAnyH_take (i := 4) (v := ?v4c5) rfl (by kernel_rfl) (by kernel_rfl) (by kernel_rfl) (fun _ _ _ h => h) (Or.inl ⟨by rfl, ?y4c5⟩) (by assumption) ?r4c5
        case y4c5 => (intro w hSw; (try dsimp only at hSw); go_simp; (try with_reducible rfl))
        simp only [Act.put, List.setIfInBounds_toArray, List.set_cons_zero, List.set_cons_succ]
        refine wpAnyH_take (i := 6) (v := ?v6c6) rfl (by kernel_rfl) (by kernel_rfl) (by kernel_rfl) (fun _ _ _ h => h) (Or.inl ⟨by rfl, ?y6c6⟩) (by assumption) ?r6c6
        case y6c6 => (intro w hSw; (try dsimp only at hSw); go_simp; (try with_reducible rfl))
        simp only [Act.put, List.setIfInBounds_toArray, List.set_cons_zero, List.set_cons_succ]
        refine wpAnyH_ready (rs := [5, 7]) (by kernel_rfl) (by decide) (AllReadyH.cons (o := ({ dst := some 42, op := Op.load 22 (Operand.tmp 41), type := 22, pos := "quad.go:270", after := #[{ on := 4, ground := Ground.data }], guard := none } : Oper)) rfl (fun K' hK => ?g5) (AllReadyH.cons (o := ({ dst := some 44, op := Op.buildSlice 22 1 #[(0, Operand.tmp 43)], type := 22, pos := "quad.go:270", after := #[{ on := 6, ground := Ground.data }], guard := none } : Oper)) rfl (fun K' hK => ?g7) AllReadyH.nil))
        case g5 =>
          go_simp
          refine hK.out _ _ hS fun hS1 => ?_
          clear hK
          (try simp only [Act.put, List.setIfInBounds_toArray, List.set_cons_zero, List.set_cons_succ])
          refine wpAnyH_ready (rs := [7]) (by kernel_rfl) (by decide) (AllReadyH.cons (o := ({ dst := some 44, op := Op.buildSlice 22 1 #[(0, Operand.tmp 43)], type := 22, pos := "quad.go:270", after := #[{ on := 6, ground := Ground.data }], guard := none } : Oper)) rfl (fun K' hK => ?_) AllReadyH.nil)
          go_simp
          rw [← hXE'.out, hkE.out.2]
          refine hK.out _ _ hSE.out fun hS2 => ?_
          clear hK
          (try simp only [Act.put, List.setIfInBounds_toArray, List.set_cons_zero, List.set_cons_succ])
          refine wpAnyH_ready (rs := [8]) (by kernel_rfl) (by decide) (AllReadyH.cons (o := ({ dst := some 45, op := Op.call { callee := Callee.builtin Builtin.append, args := #[Operand.tmp 42, Operand.tmp 44], argTypes := #[22, 22] }, type := 22, pos := "quad.go:270", after := #[{ on := 5, ground := Ground.data }, { on := 7, ground := Ground.data }], guard := none } : Oper)) rfl (fun K' hK => ?_) AllReadyH.nil)
          refine step_append_lies _ rfl (.tmp 42) (.tmp 44) 22 rfl w.heap.size 71 ci _ 2 16 Tryz.underlying22 hci hz0 hz1 hz2 rfl (by decide) (.slice ao n0 cap0) n0 _ rfl A1.out ⟨kE, 0, none⟩ 1 1 [.int .i64 (64 * (p.1 : Int) + (x.1 : Int)), .int .i64 (64 * (p.2 : Int) + (x.2 : Int))] rfl rfl A2.out A3.out (by decide) A4 A5 A6 (kE + 1) hkE.out.1 ?_
          intro g5 cap5 W5 ho5 hg5 hat5 hl5
          refine hK.out _ _ (A7.out W5 hg5) fun hS6 => ?_
          have hbx5 := Lib.hid (A8.out W5 hg5)
          have hbn5 := Lib.hid (A9.out W5 hg5)
          have c10 : W5.cell? ⟨bR, x.1, none⟩ = some (.slice ao n0 cap0) := by rw [← hvx.out]; exact (hbx5.out.cell x.1).trans (Vw_get V x.1 hx1)
          have c11 := hbx5.out.free x.1
          have ho5' := Lib.hid ho5
          have hg5' := Lib.hid hg5
          have hat5' := Lib.hid hat5
          clear hK ho5 hg5 hat5
          (try simp only [Act.put, List.setIfInBounds_toArray, List.set_cons_zero, List.set_cons_succ])
          refine wpAnyH_take (i := 9) (v := ?v9d1) rfl (by kernel_rfl) (by kernel_rfl) (by kernel_rfl) (fun _ _ _ h => h) (Or.inl ⟨by rfl, ?y9d1⟩) (by assumption) ?r9d1
          case y9d1 => (intro w hSw; (try dsimp only at hSw); go_simp; (try with_reducible rfl))
          simp only [Act.put, List.setIfInBounds_toArray, List.set_cons_zero, List.set_cons_succ]
          refine wpAnyH_ready (rs := [10]) (by kernel_rfl) (by decide) (AllReadyH.cons (o := ({ dst := none, op := Op.store 22 (Operand.tmp 46) (Operand.tmp 45), type := 0, pos := "quad.go:270", after := #[{ on := 9, ground := Ground.data }, { on := 8, ground := Ground.data }, { on := 8, ground := Ground.chain }, { on := 0, ground := Ground.phase }, { on := 1, ground := Ground.phase }, { on := 2, ground := Ground.phase }, { on := 3, ground := Ground.phase }, { on := 4, ground := Ground.phase }, { on := 5, ground := Ground.phase }, { on := 6, ground := Ground.phase }, { on := 7, ground := Ground.phase }, { on := 8, ground := Ground.phase }], guard := none } : Oper)) rfl (fun K' hK => ?_) AllReadyH.nil)
          go_simp
          refine hK.out _ _ ⟨((B1.out W5 hg5'.out).far (p := ⟨bR, x.1, none⟩) B3.out _).cell 0, ((B2.out W5 hg5'.out).far (p := ⟨bR, x.1, none⟩) B4.out _).cell 0, ((B2.out W5 hg5'.out).far (p := ⟨bR, x.1, none⟩) B4.out _).cell 1⟩ fun hS7 => ?_
          clear hK c10 c11
          refine wpAnyH_done (by kernel_rfl) ?_ _
          unfold OnlyNormal
          dsimp only
          have hbn6 := hbn5.out.far (p := ⟨bR, x.1, none⟩) B5.out (.slice (some ⟨g5, 0, none⟩) (n0 + 1) cap5)
          have c12 : (W5.setCell ⟨bR, x.1, none⟩ (.slice (some ⟨g5, 0, none⟩) (n0 + 1) cap5)).cell? ⟨bN, 0, none⟩ = some (.int .i64 (N : Nat)) := hbn6.cell 0
          have c13 := hbn6.free 0
          obtain ⟨W6, hW6⟩ : ∃ Y, Y = W5.setCell ⟨bR, x.1, none⟩ (.slice (some ⟨g5, 0, none⟩) (n0 + 1) cap5) := ⟨_, rfl⟩
          rw [← hW6] at c12 c13 ⊢
          have hW6' := Lib.hid hW6
          clear hW6 hbn6
          gi_wp2
          exact PST.out g5 cap5 W5 W6 ho5'.out hg5'.out hat5'.out hW6'.out _
        case g7 =>
          go_simp
          rw [← hXE'.out, hkE.out.2]
          refine hK.out _ _ hSE.out fun hS2 => ?_
          clear hK
          (try simp only [Act.put, List.setIfInBounds_toArray, List.set_cons_zero, List.set_cons_succ])
          refine wpAnyH_ready (rs := [5]) (by kernel_rfl) (by decide) (AllReadyH.cons (o := ({ dst := some 42, op := Op.load 22 (Operand.tmp 41), type := 22, pos := "quad.go:270", after := #[{ on := 4, ground := Ground.data }], guard := none } : Oper)) rfl (fun K' hK => ?_) AllReadyH.nil)
          go_simp
          refine hK.out _ _ hSE.out fun hS1 => ?_
          clear hK
          (try simp only [Act.put, List.setIfInBounds_toArray, List.set_cons_zero, List.set_cons_succ])
          refine wpAnyH_ready (rs := [8]) (by kernel_rfl) (by decide) (AllReadyH.cons (o := ({ dst := some 45, op := Op.call { callee := Callee.builtin Builtin.append, args := #[Operand.tmp 42, Operand.tmp 44], argTypes := #[22, 22] }, type := 22, pos := "quad.go:270", after := #[{ on := 5, ground := Ground.data }, { on := 7, ground := Ground.data }], guard := none } : Oper)) rfl (fun K' hK => ?_) AllReadyH.nil)
          refine step_append_lies _ rfl (.tmp 42) (.tmp 44) 22 rfl w.heap.size 71 ci _ 2 16 Tryz.underlying22 hci hz0 hz1 hz2 rfl (by decide) (.slice ao n0 cap0) n0 _ rfl A1.out ⟨kE, 0, none⟩ 1 1 [.int .i64 (64 * (p.1 : Int) + (x.1 : Int)), .int .i64 (64 * (p.2 : Int) + (x.2 : Int))] rfl rfl A2.out A3.out (by decide) A4 A5 A6 (kE + 1) hkE.out.1 ?_
          intro g5 cap5 W5 ho5 hg5 hat5 hl5
          refine hK.out _ _ (A7.out W5 hg5) fun hS6 => ?_
          have hbx5 := Lib.hid (A8.out W5 hg5)
          have hbn5 := Lib.hid (A9.out W5 hg5)
          have c10 : W5.cell? ⟨bR, x.1, none⟩ = some (.slice ao n0 cap0) := by rw [← hvx.out]; exact (hbx5.out.cell x.1).trans (Vw_get V x.1 hx1)
          have c11 := hbx5.out.free x.1
          have ho5' := Lib.hid ho5
          have hg5' := Lib.hid hg5
          have hat5' := Lib.hid hat5
          clear hK ho5 hg5 hat5
          (try simp only [Act.put, List.setIfInBounds_toArray, List.set_cons_zero, List.set_cons_succ])
          refine wpAnyH_take (i := 9) (v := ?v9e1) rfl (by kernel_rfl) (by kernel_rfl) (by kernel_rfl) (fun _ _ _ h => h) (Or.inl ⟨by rfl, ?y9e1⟩) (by assumption) ?r9e1
          case y9e1 => (intro w hSw; (try dsimp only at hSw); go_simp; (try with_reducible rfl))
          simp only [Act.put, List.setIfInBounds_toArray, List.set_cons_zero, List.set_cons_succ]
          refine wpAnyH_ready (rs := [10]) (by kernel_rfl) (by decide) (AllReadyH.cons (o := ({ dst := none, op := Op.store 22 (Operand.tmp 46) (Operand.tmp 45), type := 0, pos := "quad.go:270", after := #[{ on := 9, ground := Ground.data }, { on := 8, ground := Ground.data }, { on := 8, ground := Ground.chain }, { on := 0, ground := Ground.phase }, { on := 1, ground := Ground.phase }, { on := 2, ground := Ground.phase }, { on := 3, ground := Ground.phase }, { on := 4, ground := Ground.phase }, { on := 5, ground := Ground.phase }, { on := 6, ground := Ground.phase }, { on := 7, ground := Ground.phase }, { on := 8, ground := Ground.phase }], guard := none } : Oper)) rfl (fun K' hK => ?_) AllReadyH.nil)
          go_simp
          refine hK.out _ _ ⟨((B1.out W5 hg5'.out).far (p := ⟨bR, x.1, none⟩) B3.out _).cell 0, ((B2.out W5 hg5'.out).far (p := ⟨bR, x.1, none⟩) B4.out _).cell 0, ((B2.out W5 hg5'.out).far (p := ⟨bR, x.1, none⟩) B4.out _).cell 1⟩ fun hS7 => ?_
          clear hK c10 c11
          refine wpAnyH_done (by kernel_rfl) ?_ _
          unfold OnlyNormal
          dsimp only
          have hbn6 := hbn5.out.far (p := ⟨bR, x.1, none⟩) B5.out (.slice (some ⟨g5, 0, none⟩) (n0 + 1) cap5)
          have c12 : (W5.setCell ⟨bR, x.1, none⟩ (.slice (some ⟨g5, 0, none⟩) (n0 + 1) cap5)).cell? ⟨bN, 0, none⟩ = some (.int .i64 (N : Nat)) := hbn6.cell 0
          have c13 := hbn6.free 0
          obtain ⟨W6, hW6⟩ : ∃ Y, Y = W5.setCell ⟨bR, x.1, none⟩ (.slice (some ⟨g5, 0, none⟩) (n0 + 1) cap5) := ⟨_, rfl⟩
          rw [← hW6] at c12 c13 ⊢
          have hW6' := Lib.hid hW6
          clear hW6 hbn6
          gi_wp2
          exact PST.out g5 cap5 W5 W6 ho5'.out hg5'.out hat5'.out hW6'.out _
      case done =>
        rintro Dd Y hDd ⟨V, N, h1, h2, h3, h4, h5⟩ hKD
        have hmk := Lib.hid (Marks.cons hds2.out (hds2.out.defk h5) (Nat.le_trans hsz2 hDd) hDd hKD)
        have hcl := cellsUp_le (blk (sub M p.1 p.2)) 64
        have hst : (cellsUp (blk (sub M p.1 p.2)) 64).foldl (addC p) (stripL M (S.take k)) = stripL M (S.take (k + 1)) := by
          rw [← stripL_app, List.take_add_one, hpe'.out]; rfl
        rw [hst] at h1
        have H1 := Lib.hid h1
        have H3 := Lib.hid h3
        have hN2 : N ≤ 4096 * (k + 1) := by omega
        clear h1 h3 h4 h5 hst hcl h2
        go_wp2_with fail
        refine ⟨⟨k + 1, V, N, by go_num, by omega, H1.out, hN2, H3.out, hmk.out⟩, ?_, ?_⟩
        · simp [getS, intOf, hu]; omega
        · rfl
    · have e3 : decide ((k : Int) < (S.length : Int)) = false := by rw [decide_eq_false_iff_not]; omega
      have e4 : decide (k < S.length) = false := by rw [decide_eq_false_iff_not]; exact hkt
      have hst : S.take k = S := List.take_of_length_le (by omega)
      have hR1 : RowsP w.heap.size bR bN V (stripL M S) N wr := by
        have := hR'.out
        rw [hst] at this
        exact this
      have hR2 := Lib.hid hR1
      obtain ⟨ci, hci, hz0, hz1, hz2⟩ := info_parts cellInfo
      have c0 : wr.cell? ⟨bN, 0, none⟩ = some (.int .i64 (N : Nat)) := hR1.num.cell 0
      have hN3 : N ≤ 1048576 := by omega
      clear hR hf hds hR1 hst hR'
      go_wp2_with (first | (refine wpList_make_own wr rfl _ _ 22 rfl w.heap.size 71 ci _ 2 Tryz.underlying22 hci hz0 hz1 .i64 .i64 _ N rfl rfl rfl (by rw [hz2]; omega) (by unfold maxLen; omega) hf'.out.size ?_; intro w1 ho1 hg1; have hf1 : Far (fun _ => False) wr w1 := (Far.refl _ wr).grown hg1 (fun _ _ e => by cases e); have hR3 := Lib.hid (hR2.out.still hf1); have hV3 := hR3.out.box; have ho1' := Lib.hid ho1; have hf1' := Lib.hid hf1; clear ho1 hg1 hf1 c0) | (refine wpList_ldV rfl _ rfl _ rfl hV3 ?_))
      have hV4 := hR3.out.box
      refine wp_loop_d [9, 11, 53, 54, 55, 56, 57, 58, 59] (fun u ds W => ∃ (j m : Nat) (lo : Option Addr) (lc : Nat), u 53 = .int .i64 (j : Nat) ∧ j ≤ 64 ∧ u 9 = .slice lo m lc ∧ m = ((List.range j).flatMap (stripL M S)).length ∧ m ≤ N * j ∧ W.ownsRow w.heap.size 71 2 (.slice lo m lc) m (ccells ((List.range j).flatMap (stripL M S))) ∧ RowsP w.heap.size bR bN V (stripL M S) N W ∧
        (∀ a, a < 64 → ∀ q, (Value.slice lo m lc).ownBlock = some q → (V a).ownBlock ≠ some q) ∧ Far (fun _ => False) w W ∧ Marks W w.heap.size ds) (fun u _ => 64 - (intOf (u 53)).toNat) (by kernel_rfl) ?start2 ?round2
      case start2 =>
        refine ⟨0, 0, _, _, rfl, Nat.zero_le _, rfl, rfl, Nat.le_refl _, ho1'.out, hR3.out, fun a ha q hq hq2 => ?_, hf'.out.then hf1'.out, hds'.out.far hf1'.out fun _ _ _ q => q⟩
        have e : wr.heap.size = q := Option.some.inj hq
        have := ((hR2.out.row a ha).lt q hq2).2
        omega
      case round2 =>
        clear hR2 hf' hds' hR3 hV3 hV4 ho1' hf1'
        rintro u2 ds2 w2 ⟨j, m, lo, lc, hu1, hj, hu2, hm, hmN, hown, hR, hap, hf, hds⟩
        simp only [putS, List.foldl_cons, List.foldl_nil, List.setIfInBounds_toArray, List.set_cons_zero, List.set_cons_succ, hu1, hu2]
        have hR' := Lib.hid hR
        have hf' := Lib.hid hf
        have hds' := Lib.hid hds
        have hown' := Lib.hid hown
        have hap' := Lib.hid hap
        have hm' := Lib.hid hm
        by_cases hjt : j < 64
        · have e5 : decide ((j : Int) < 64) = true := by rw [decide_eq_true_eq]; omega
          have hjj : (j : Int) < 64 := by omega
          have hix := fun w => run_ixV V (fun i hi => q_form (hR'.out.row i hi) |>.elim fun a h => h.elim fun c h => ⟨a, _, c, h⟩) j hjt w
          have hrj := hR'.out.row j hjt
          have hlj := hR'.out.len j
          have hflat : (List.range (j + 1)).flatMap (stripL M S) = (List.range j).flatMap (stripL M S) ++ stripL M S j := by rw [List.range_succ, List.flatMap_append]; simp
          by_cases he : stripL M S j = []
          · have hVn := hR'.out.empty j he
            rw [hVn] at hix
            have hflat2 : (List.range (j + 1)).flatMap (stripL M S) = (List.range j).flatMap (stripL M S) := by rw [hflat, he, List.append_nil]
            have hm2 : m = ((List.range (j + 1)).flatMap (stripL M S)).length := by rw [hflat2]; exact hm
            have hown2 := Lib.hid (show w2.ownsRow w.heap.size 71 2 (.slice lo m lc) m (ccells ((List.range (j + 1)).flatMap (stripL M S))) by rw [hflat2]; exact hown)
            have hmN2 : m ≤ N * (j + 1) := by rw [Nat.mul_succ]; omega
            have hm2' := Lib.hid hm2
            clear hrj hlj hflat hflat2 he hm hown hR hap hf hds hm2
            go_wp2_with (at_builtin; refine wpList_app_none rfl _ _ 22 rfl w.heap.size 71 ci 2 Tryz.underlying22 hci (.slice lo m lc) m _ rfl hown'.out rfl ?_)
            refine ⟨⟨j + 1, m, lo, lc, by go_num, by omega, rfl, hm2'.out, hmN2, hown2.out, hR'.out, hap'.out, hf'.out, hds'.out⟩, ?_, ?_⟩
            · simp [getS, intOf, hu1]; omega
            · rfl
          · obtain ⟨nj, hnj⟩ : ∃ n, n = (stripL M S j).length := ⟨_, rfl⟩
            have hpos : 0 < nj := by
              rw [hnj]
              exact List.length_pos_iff.2 he
            rw [← hnj] at hrj hlj
            obtain ⟨gj, cj, hVj, _, hgl⟩ := hrj.form (by omega)
            have hnews := Lib.hid (fun q u hu => hrj.cells (g := gj) (by rw [hVj]; rfl) q u hu)
            have hlen2 : (ccells (stripL M S j)).length = nj * 2 := by rw [ccells_len, hnj]
            rw [hVj] at hix
            have hB5 : m + nj ≤ maxLen := by unfold maxLen; have : N * j ≤ 1048576 * 64 := Nat.mul_le_mul hN3 (by omega); omega
            have hB6 : (m + nj) * 16 ≤ 140737488355328 := by have : N * j ≤ 1048576 * 64 := Nat.mul_le_mul hN3 (by omega); omega
            have hm2 := Lib.hid (show m + nj = ((List.range (j + 1)).flatMap (stripL M S)).length by rw [hflat, List.length_append, ← hm, ← hnj])
            have hmN2 : m + nj ≤ N * (j + 1) := by rw [Nat.mul_succ]; omega
            have hone := Lib.hid (ccells_one (stripL M S j))
            have hflat' := Lib.hid hflat
            have hsz2 := hf.size
            clear hrj hlj hflat he hm hown hR hap hf hds hVj hnj
            go_wp2_with (at_builtin; refine wpList_append_lies _ rfl _ _ 22 rfl w.heap.size 71 ci _ 2 16 Tryz.underlying22 hci hz0 hz1 hz2 rfl (by decide) (.slice lo m lc) m _ rfl hown'.out ⟨gj, 0, none⟩ nj cj (ccells (stripL M S j)) rfl hlen2 hnews.out hone.out hpos hB5 hB6 hsz2 _ rfl ?_; intro g5 cap5 W5 ho5 hg5 hat5 hl5; have ho5' := Lib.hid ho5; have hg5' := Lib.hid hg5; have hat5' := Lib.hid hat5; clear ho5 hg5 hat5)
            have hapn : ∀ a, a < 64 → ∀ q, (Value.slice (some ⟨g5, 0, none⟩) (m + nj) cap5).ownBlock = some q → (V a).ownBlock ≠ some q := fun a ha q hq hq2 => by
              have e : g5 = q := Option.some.inj hq
              subst e
              rcases hat5'.out with e | e
              · exact hap'.out a ha g5 e hq2
              · have := ((hR'.out.row a ha).lt g5 hq2).2
                omega
            refine ⟨⟨j + 1, m + nj, some ⟨g5, 0, none⟩, cap5, by go_num, by omega, rfl, hm2.out, hmN2, ?_, hR'.out.past hg5'.out hown'.out hap'.out, hapn, hf'.out.grown hg5'.out fun q hq e => absurd (hown'.out.lt q e).1 (by omega), hds'.out.far (grown_F hg5'.out) fun q _ hd e => ?_⟩, ?_, ?_⟩
            · rw [hflat'.out, ccells_join]; exact ho5'.out
            · rcases hown'.out.2 with ⟨e1, _⟩ | ⟨g', cap, cur, e1, _, hg1, _⟩
              · rw [e1] at e; cases e
              · rw [e1] at e
                have : g' = q := Option.some.inj e
                subst this
                rw [hg1] at hd
                cases hd
            · simp [getS, intOf, hu1]; omega
            · rfl
        · have ej : j = 64 := by omega
          subst ej
          clear hm hown hR hap hf hds
          go_wp2_with fail
          refine leave_marks hds'.out fun W' hfW => ?_
          refine ⟨.slice lo m lc, ?_, _, rfl, ?_, hf'.out.trans hfW fun q hq e => absurd e.1 (by omega), by rw [cellsS_eq, ← hm'.out]; omega⟩
          · simp [results, Tryz.f75, go_sem]
          · rw [cellsS_eq, ← hm'.out]
            refine row_same hown'.out fun q hq hl => hfW.block q hl fun e => ?_
            rcases hown'.out.2 with ⟨e1, _⟩ | ⟨g', cap, cur, e1, _, hg1, _⟩
            · rw [e1] at hq; cases hq
            · rw [e1] at hq
              have : g' = q := Option.some.inj hq
              subst this
              rw [hg1] at e
              cases e.2
end
/-! strip, Cells: how the cells of a matrix are told. -/
/-- How many of the first leaves lie in one row of blocks. -/
def stripN (S : List (Nat × Nat)) : Nat := match S with | [] => 0 | p :: l => ((p :: l).takeWhile fun q => decide (q.1 = p.1)).length
theorem stripN_le (S : List (Nat × Nat)) : stripN S ≤ S.length := by
  cases S with
  | nil => exact Nat.le_refl _
  | cons p l => exact (List.takeWhile_prefix _).length_le
theorem stripN_pos {S : List (Nat × Nat)} (h : S ≠ []) : 1 ≤ stripN S := by
  cases S with
  | nil => exact absurd rfl h
  | cons p l => simp [stripN, List.takeWhile_cons]
theorem takeWhile_len {α : Type} (f : α → Bool) : ∀ (l : List α) (k : Nat), k ≤ l.length → (∀ i x, i < k → l[i]? = some x → f x = true) → (∀ x, l[k]? = some x → f x = false) → (l.takeWhile f).length = k
  | [], k, hk, _, _ => by simp at hk; subst hk; rfl
  | x :: l, 0, _, _, h => by simp [List.takeWhile_cons, h x rfl]
  | x :: l, k + 1, hk, h1, h2 => by
    rw [List.takeWhile_cons, h1 0 x (by omega) rfl, if_pos rfl, List.length_cons, takeWhile_len f l k (by simpa using hk) (fun i y hi hy => h1 (i + 1) y (by omega) (by simpa using hy)) (fun y hy => h2 y (by simpa using hy))]
theorem stripN_eq {S : List (Nat × Nat)} {p0 : Nat × Nat} {k : Nat} (h0 : S[0]? = some p0) (hk : k ≤ S.length) (h1 : ∀ i x, i < k → S[i]? = some x → x.1 = p0.1) (h2 : ∀ x, S[k]? = some x → x.1 ≠ p0.1) : stripN S = k := by
  cases S with
  | nil => simp at h0
  | cons q l =>
    have e : q = p0 := by simpa using h0
    subst e
    exact takeWhile_len _ _ k hk (fun i x hi hx => by simpa using h1 i x hi hx) (fun x hx => by simpa using h2 x hx)
theorem spt_cells {w : World} {g o i j : Nat} {f : Nat → Nat} (h : w.rangeAt g o (spt i j f).toList) : w.cell? ⟨g, o, none⟩ = some (.int .i64 (i : Nat)) ∧ w.cell? ⟨g, o + 1, none⟩ = some (.int .i64 (j : Nat)) := ⟨h 0 _ (by simp [spt]), h 1 _ (by simp [spt])⟩
section
set_option maxHeartbeats 8000000
set_option maxRecDepth 100000
theorem qstrip_any (M : Nat → Nat → Bool) (g o cap : Nat) (S : List (Nat × Nat)) (hS : S.length ≤ 256) (hne : S ≠ []) (w : World) (hrow : ∀ k p, S[k]? = some p → w.rangeAt g (o + k * 66) (srow M p)) :
    Calls Tryz.prog 74 #[.slice (some ⟨g, o, none⟩) S.length cap] w fun e w' => e = .returned (.int .i64 (stripN S : Nat)) ∧ Far (fun _ => False) w w' := by
  have hpos : 0 < S.length := List.length_pos_iff.2 hne
  obtain ⟨p0, hp0⟩ : ∃ p, S[0]? = some p := ⟨S[0], List.getElem?_eq_getElem hpos⟩
  have hp0' := Lib.hid hp0
  have hrow' := Lib.hid hrow
  have hpi : (0 : Int) < (S.length : Int) := by omega
  clear hne hp0 hrow
  go_enter Tryz.func74, Tryz.ntmps74
  go_wp2_with fail
  go_loopw [3] (fun nv wr => ∃ k : Nat, k ≤ S.length ∧ nv = .int .i64 (k : Nat) ∧ (∀ i x, i < k → S[i]? = some x → x.1 = p0.1) ∧ Far (fun _ => False) w wr) (fun nv _ => S.length - (intOf nv).toNat)
  case atStart => exact ⟨0, Nat.zero_le _, rfl, (fun i x hi => absurd hi (Nat.not_lt_zero _)), Far.refl _ _⟩
  case round =>
    obtain ⟨k, hk, rfl, hsame, hf⟩ := hrel
    have hf' := Lib.hid hf
    have hsame' := Lib.hid hsame
    have c0 : wr.cell? ⟨g, o, none⟩ = some (.int .i64 (p0.1 : Nat)) := by
      have := (spt_cells (range_far (hrow'.out 0 p0 hp0'.out) hf)).1
      simpa using this
    clear hf hsame
    by_cases hlt : k < S.length
    · have dk : (k : Int) < (S.length : Int) := by omega
      obtain ⟨p, hp⟩ : ∃ p, S[k]? = some p := ⟨S[k], List.getElem?_eq_getElem hlt⟩
      have ck : wr.cell? ⟨g, o + k * 66, none⟩ = some (.int .i64 (p.1 : Nat)) := (spt_cells (range_far (hrow'.out k p hp) hf'.out)).1
      have hp' := Lib.hid hp
      clear hp
      by_cases he : p.1 = p0.1
      · have e1 : ((p.1 : Int) == (p0.1 : Int)) = true := by simp [he]
        go_wp2_with fail
        go_quiet (fail)
        go_wp2_with fail
        go_roundw
        case rel => exact ⟨k + 1, by omega, by go_num, fun i x hi hx => (by
          by_cases h9 : i < k
          · exact hsame'.out i x h9 hx
          · have h8 : i = k := by omega
            subst h8
            rw [hp'.out] at hx
            cases hx
            exact he), (hf'.out.drewN _)⟩
        case measure => simp only [intOf]; omega
      · have e1 : ((p.1 : Int) == (p0.1 : Int)) = false := by simp; omega
        have hst : stripN S = k := stripN_eq hp0'.out hk hsame'.out fun x hx => by rw [hp'.out] at hx; cases hx; exact he
        have hst' := Lib.hid hst
        clear hst
        go_wp2_with fail
        go_quiet (fail)
        go_wp2_with fail
        go_ret
        rw [hst'.out]
        exact ⟨rfl, hf'.out.drewN _⟩
    · have dk : ¬ (k : Int) < (S.length : Int) := by omega
      have hst : stripN S = k := stripN_eq hp0'.out hk hsame'.out fun x hx => by rw [List.getElem?_eq_none (by omega)] at hx; cases hx
      have hst' := Lib.hid hst
      clear hst
      go_wp2_with fail
      go_quiet (fail)
      go_wp2_with fail
      go_ret
      rw [hst'.out]
      exact ⟨rfl, hf'.out.drewN _⟩
end
end Go.Proofs.YtjolkhiggcmoiaaGreatDoor
/-! ## QCellsSeq: Cells of a matrix: the sequence. -/
namespace Go.Proofs.YtjolkhiggcmoiaaGreatDoor
open Go.RowKit Go.Shelf
set_option linter.unusedVariables false
set_option linter.unusedSimpArgs false
/-- The cells of all strips. -/
def cellsF (M : Nat → Nat → Bool) : Nat → List (Nat × Nat) → List (Nat × Nat)
  | 0, _ => []
  | n + 1, S => if S = [] then [] else cellsS M (S.take (stripN S)) ++ cellsF M n (S.drop (stripN S))
theorem cellsF_nil (M : Nat → Nat → Bool) (n : Nat) : cellsF M n [] = [] := by cases n <;> simp [cellsF]
theorem cellsF_step (M : Nat → Nat → Bool) {n : Nat} {S : List (Nat × Nat)} (h : S ≠ []) (hn : S.length ≤ n) : ∃ m, n = m + 1 ∧ cellsF M n S = cellsS M (S.take (stripN S)) ++ cellsF M m (S.drop (stripN S)) := by
  cases n with
  | zero => exact absurd (List.length_eq_zero_iff.1 (Nat.le_zero.1 hn)) h
  | succ m => exact ⟨m, rfl, by simp [cellsF, h]⟩
/-- What a walk over the cells must leave as it is: the table, and every row of cells and of leaves. -/
def KT (A B : World) : Prop := A.heap.size ≤ B.heap.size ∧ ∀ k, (k = 0 ∨ ∃ cs t, Bk A k t cs ∧ (t = 71 ∨ t = 131 ∨ t = 124)) → B.heap[k]? = A.heap[k]?
theorem KT.refl (A : World) : KT A A := ⟨Nat.le_refl _, fun _ _ => rfl⟩
theorem KT.trans {A B C : World} (h : KT A B) (k : KT B C) : KT A C := ⟨Nat.le_trans h.1 k.1, fun i hi => (k.2 i (hi.elim .inl fun ⟨cs, t, hb, ht⟩ => .inr ⟨cs, t, (h.2 i hi).trans hb, ht⟩)).trans (h.2 i hi)⟩
theorem KT.put {B : Nat} (W : World) (l : Nat) (o o' : Obj) (hT : 0 < B) (hl : B ≤ l) (h : W.heap[l]? = some o) (ho : o.isCells = false) : KT W (W.putObj l o') :=
  ⟨putObj_size W l o', fun k hk => World.putObj_heap_other fun e => by
    rcases hk with rfl | ⟨cs, t, hb, _⟩
    · omega
    · rw [e] at hb
      rw [show W.heap[l]? = _ from hb] at h
      cases h
      cases ho⟩
theorem KT.far {A B : World} (hf : Far (fun _ => False) A B) (hT : 0 < A.heap.size) : KT A B := ⟨hf.size, fun k hk => hf.block k (hk.elim (fun e => by rw [e]; exact hT) fun ⟨_, _, hb, _⟩ => hb.lt) id⟩
theorem Tab.kt {A B : World} (h : Tab A) (k : KT A B) : Tab B := fun j hj => (cell_eq (p := ⟨0, j, none⟩) (k.2 _ (.inl rfl))).trans (h j hj)
theorem KT.row {A B : World} {base e size n : Nat} {v : Value} {xs : List Value} (h : A.ownsRow base e size v n xs) (k : KT A B) (he : e = 71 ∨ e = 131) : B.ownsRow base e size v n xs := row_same h fun q hq _ => by
  rcases h.2 with ⟨rfl, _⟩ | ⟨g', cap, cur, rfl, _, hg, _⟩
  · cases hq
  · have : g' = q := Option.some.inj hq
    subst this
    exact k.2 _ (.inr ⟨cur, e, hg, he.elim .inl fun h => .inr (.inl h)⟩)
def lenV : Value → Nat
  | .slice _ n _ => n
  | _ => 0
/-- The two numbers that the loop's variables get. -/
def encP (x : Nat × Nat) : Array Value := #[.int .i64 (x.1 : Nat), .int .i64 (x.2 : Nat)]
set_option maxRecDepth 100000 in
set_option maxHeartbeats 8000000 in
theorem qcells_seq (n : Nat) (hn : 2 ≤ n) (h b : Nat) (v : Value) (M : Nat → Nat → Bool) (L : List (Nat × Nat)) (hL : L.length ≤ 256) (hp : ∀ p ∈ L, p.1 < 16 ∧ p.2 < 16) (w0 : World) (hX : Bk w0 h 124 #[v]) (hO : w0.ownsRow b 131 66 v L.length (srows M L).flatten) (hT : Tab w0) :
    SeqOk n Tryz.prog 73 #[.pointer (some ⟨h, 0, none⟩)] encP (fun pre x _ => (pre ++ [x]) <+: cellsF M L.length L) KT (fun xs => xs = cellsF M L.length L) (fun _ => True) w0 := fun l J Jx W hW hJ hY h0 => by
  have hXW : Bk W h 124 #[v] := hX.below hW hX.lt
  have hOW : W.ownsRow b 131 66 v L.length (srows M L).flatten := row_same hO fun k hk hlt => hW.block k hlt
  have hTW : Tab W := hT.stays hW
  have HY := Lib.hid hY
  have HJ := Lib.hid hJ
  obtain ⟨T, hTT⟩ : ∃ T, T = cellsF M L.length L := ⟨_, rfl⟩
  have hTT' := Lib.hid hTT
  rw [← hTT] at HY
  obtain ⟨ao, cap, rfl⟩ := q_form hO
  have p0 : W.cell? ⟨h, 0, none⟩ = some (.slice ao L.length cap) := hXW.cell 0
  have hOW' := Lib.hid hOW
  have hTW' := Lib.hid hTW
  clear hY hJ hX hO hXW hOW hTT hT hTW
  refine callsIn_of_wp Tryz.func73 rfl trivial (wpIn_wide.2 ?_) rfl
  simp only [Tryz.ntmps73, List.size_toArray, List.length_cons, List.length_nil, Nat.reduceAdd, Nat.reduceSub, Array.replicate_succ, Array.replicate_zero, List.push_toArray, List.append_toArray, List.nil_append, List.cons_append]
  have hn1 : 1 ≤ n := by omega
  go_wp2_with fail
  clear p0
  go_loopw [3] (fun rv wr => ∃ (k m : Nat) (ro : Option Addr) (rc : Nat) (pre : List (Nat × Nat)) (f : Nat), m + k = L.length ∧ rv = .slice ro m rc ∧ (0 < m → ∃ g, ao = some ⟨g, 0, none⟩ ∧ ro = some ⟨g, k * 66, none⟩) ∧ m ≤ rc ∧ m ≤ f ∧ pre ++ cellsF M f (L.drop k) = T ∧ J pre wr ∧ KT W wr) (fun rv _ => lenV rv)
  case atStart =>
    refine ⟨0, L.length, ao, cap, [], L.length, rfl, rfl, fun h9 => ?_, ?_, Nat.le_refl _, hTT'.out.symm, h0, KT.refl _⟩
    · obtain ⟨g, c2, hsv, _⟩ := hOW'.out.form h9
      cases hsv
      exact ⟨g, rfl, by rw [Nat.zero_mul]⟩
    · rcases hOW'.out.2 with ⟨e, e2⟩ | ⟨g, cap', cur, e, _, _, hle, _⟩
      · rw [e2]; exact Nat.zero_le _
      · cases e; exact hle
  case round =>
    clear h0
    obtain ⟨k, m, ro, rc, pre, f, hk, rfl, hro, hrc, hf, hpre, hJk, hKp⟩ := hrel
    by_cases hlt : 0 < m
    · obtain ⟨g, rfl, rfl⟩ := hro hlt
      have hmi : (0 : Int) < (m : Int) := by omega
      obtain ⟨S, hS⟩ : ∃ S, S = L.drop k := ⟨_, rfl⟩
      have hSl : S.length = m := by rw [hS, List.length_drop]; omega
      have hSne : S ≠ [] := List.length_pos_iff.1 (by omega)
      obtain ⟨s, hs⟩ : ∃ s, s = stripN S := ⟨_, rfl⟩
      have hs1 : 1 ≤ s := hs ▸ stripN_pos hSne
      have hs2 : s ≤ m := by rw [hs, ← hSl]; exact stripN_le S
      have hOr : wr.ownsRow b 131 66 (.slice (some ⟨g, 0, none⟩) L.length cap) L.length (srows M L).flatten := KT.row hOW'.out hKp (.inr rfl)
      have hTr : Tab wr := hTW'.out.kt hKp
      have hrow : ∀ i p, S[i]? = some p → wr.rangeAt g (k * 66 + i * 66) (srow M p) := fun i p hi => by
        rw [hS, List.getElem?_drop] at hi
        have := own_range hOr (srows_even M _) (srows_get hi)
        rw [Nat.add_mul] at this
        exact this
      have SN := qstrip_any M g (k * 66) rc S (by omega) hSne wr hrow
      rw [hSl, ← hs] at SN
      have hglt := (hOr.lt g rfl).2
      obtain ⟨f', hf', hstep⟩ := cellsF_step M hSne (show S.length ≤ f by omega)
      rw [← hs] at hstep
      have hsi : (s : Int) ≤ (m : Int) := by omega
      have hsr : s ≤ rc := by omega
      have hsri : (s : Int) ≤ (rc : Int) := by omega
      have hs1' : (0 : Int) ≤ (s : Int) := by omega
      have hCE : ∀ w1, Far (fun _ => False) wr w1 → Calls Tryz.prog 75 #[.slice (some ⟨g, k * 66, none⟩) s rc] w1 _ := fun w1 hf1 => by
        have := qcells_any M g (k * 66) rc (S.take s) (by rw [List.length_take]; omega) w1 (fun i p hi => range_far (hrow i p (by rw [List.getElem?_take] at hi; split at hi; exact hi; cases hi)) hf1) (Nat.lt_of_lt_of_le hglt hf1.size) (fun p hp' => hp p (List.mem_of_mem_drop (hS ▸ List.mem_of_mem_take hp'))) (hTr.still hf1)
        rw [show (S.take s).length = s by rw [List.length_take]; omega] at this
        exact this
      obtain ⟨X, hX⟩ : ∃ X, X = cellsS M (S.take s) := ⟨_, rfl⟩
      rw [← hX] at hCE hstep
      have hJk' := Lib.hid hJk
      have hKp' := Lib.hid hKp
      have hpre' := Lib.hid (show pre ++ (X ++ cellsF M f' (S.drop s)) = T by rw [← hstep, hS]; exact hpre)
      have hS' := Lib.hid hS
      have hf'' := Lib.hid hf'
      have hTlt := Lib.hid hTr.lt
      clear hJk hKp hpre hS hf' hrow hOr hTr hSne hs hstep hX hro
      go_wp2_with fail
      refine SN.mono ?_
      rintro e w1 ⟨rfl, hf1⟩
      have CE := hCE w1 hf1
      have hf1' := Lib.hid hf1
      clear SN hCE hf1
      go_wp2_with fail
      refine CE.mono ?_
      rintro e w2 ⟨v, rfl, hown, hf2, hXl⟩
      have hf12 := Lib.hid (hf1'.out.then hf2)
      obtain ⟨xo, xc, rfl⟩ := q_form hown
      obtain ⟨nX, hnX⟩ : ∃ n, n = X.length := ⟨_, rfl⟩
      rw [← hnX] at hown hXl ⊢
      have hown' := Lib.hid hown
      have hnX' := Lib.hid hnX
      have hJ2 := Lib.hid (HJ.out _ _ _ none hJk'.out (far_grown hf12.out) (fun r e => by cases e))
      have hK2 := Lib.hid (hKp'.out.trans (KT.far hf12.out hTlt.out))
      clear CE hown hf2 hnX hJk' hKp'
      go_wp2_with fail
      have hmk := Lib.hid (show m + k = L.length from hk)
      clear hf1' hf12
      go_loopw [18] (fun iv wr => ∃ i : Nat, i ≤ nX ∧ iv = .int .i64 (i : Nat) ∧ J (pre ++ X.take i) wr ∧ KT w2 wr) (fun iv _ => nX - (intOf iv).toNat)
      case atStart => exact ⟨0, Nat.zero_le _, rfl, by rw [List.take_zero, List.append_nil]; exact hJ2.out, KT.refl _⟩
      case round =>
        clear hJ2
        obtain ⟨i, hi, rfl, hJi, hKi⟩ := hrel
        by_cases hin : i < nX
        · have hii : (i : Int) < (nX : Int) := by omega
          obtain ⟨x, hx⟩ : ∃ x, X[i]? = some x := ⟨X[i]'(by rw [← hnX'.out]; exact hin), List.getElem?_eq_getElem _⟩
          have hrowX := KT.row hown'.out hKi (.inl rfl)
          obtain ⟨gx, c2, hsv, _⟩ := hrowX.form (by omega)
          cases hsv
          have e0 : wr.cell? ⟨gx, i * 2, none⟩ = some (.int .i64 (x.1 : Nat)) := by rw [hrowX.cellAt (i * 2) (by omega)]; exact (ccells_at hx).1
          have e1 : wr.cell? ⟨gx, i * 2 + 1, none⟩ = some (.int .i64 (x.2 : Nat)) := by rw [hrowX.cellAt (i * 2 + 1) (by omega)]; exact (ccells_at hx).2
          have hnext : (pre ++ X.take i) ++ [x] = pre ++ X.take (i + 1) := by rw [List.take_add_one, hx, List.append_assoc]; rfl
          have hok : ((pre ++ X.take i) ++ [x]) <+: T := by
            rw [hnext, ← hpre'.out, List.prefix_append_right_inj]
            exact (List.take_prefix _ _).trans (List.prefix_append _ _)
          have hJi' := Lib.hid hJi
          have hKi' := Lib.hid hKi
          have hnext' := Lib.hid hnext
          have hok' := Lib.hid hok
          clear hJi hKi hrowX hx hnext hok
          go_upto_region 6 with fail
          obtain ⟨k6, hk6⟩ : ∃ b, b = wr.heap.size := ⟨_, rfl⟩
          obtain ⟨wa, hwa⟩ : ∃ V, V = wr.alloc (.cells #[.int .i64 (x.1 : Nat), .int .i64 (x.2 : Nat)] 71) := ⟨_, rfl⟩
          rw [← hk6, ← hwa]
          have hfa : Far (fun _ => False) wr wa := hwa ▸ (Far.refl _ wr).alloc _
          have hb6 : Bk wa k6 71 #[.int .i64 (x.1 : Nat), .int .i64 (x.2 : Nat)] := hwa ▸ Bk.new hk6
          have x0 : wa.cell? ⟨k6, 0, none⟩ = some (.int .i64 (x.1 : Nat)) := hb6.cell 0
          have x1 : wa.cell? ⟨k6, 1, none⟩ = some (.int .i64 (x.2 : Nat)) := hb6.cell 1
          obtain ⟨fn, tmps, assign, body, hy, hR⟩ := HY.out (pre ++ X.take i) x wa (HJ.out _ _ _ none hJi'.out (far_grown hfa) (fun r e => by cases e)) hok'.out
          rw [hnext'.out] at hR
          simp only [encP] at hy
          have hKa := Lib.hid (hKi'.out.trans (KT.far hfa (Nat.lt_of_lt_of_le hTW'.out.lt (Nat.le_trans hK2.out.1 hKi'.out.1))))
          clear hwa hk6 hfa hb6 e0 e1
          refine (wpIn_wide (n := n)).1 ?_
          gi_wp2_with (refine hR.mono ?_; rintro e W3 hc3; obtain ⟨bv, rfl, hc4⟩ := round_bool hc3; have hc5 := Lib.hid hc4; clear hc3 hc4)
          clear hy hR x0 x1
          rcases hc5.out with ⟨rfl, hJ3, hk3⟩ | ⟨rfl, hJx3⟩
          · have hJ4 := Lib.hid hJ3
            have hK4 := Lib.hid (hKa.out.trans hk3)
            clear hJ3 hk3
            go_wp2_with fail
            go_roundw
            case rel => exact ⟨i + 1, by omega, by simp, hJ4.out, hK4.out⟩
            case measure => simp only [intOf]; omega
          · have hJ4 := Lib.hid hJx3
            clear hJx3
            go_wp2_with fail
            refine bodyPost_ret (results_none rfl _ _ _) rfl ?_
            exact ⟨⟨_, rfl⟩, .inr ⟨_, hJ4.out⟩⟩
        · have hie : i = nX := by omega
          subst hie
          have hJ5 := Lib.hid (show J (pre ++ X) wr by
            have := hJi
            rw [List.take_of_length_le (by rw [← hnX'.out]; exact Nat.le_refl _)] at this
            exact this)
          have hK5 := Lib.hid (hK2.out.trans hKi)
          clear hJi hKi
          go_wp2_with fail
          refine ⟨⟨k + s, m - s, _, rc - s, pre ++ X, f', by have := hmk.out; omega, rfl, fun h9 => ⟨g, rfl, ?_⟩, by omega, by have := hf''.out; omega, ?_, hJ5.out, hK5.out⟩, ?_⟩
          · rw [if_neg (by omega), Nat.add_mul]
          · rw [List.append_assoc, ← List.drop_drop, ← hS'.out]
            exact hpre'.out
          · simp only [lenV]; omega
    · have hm0 : m = 0 := by omega
      subst hm0
      have hJ2 := Lib.hid hJk
      have hT2 := Lib.hid (show pre = T by
        rw [← hpre, show L.drop k = [] from List.drop_eq_nil_of_le (by omega), cellsF_nil, List.append_nil])
      clear hJk hpre
      go_wp2_with fail
      go_end0
      exact ⟨⟨_, rfl⟩, .inl ⟨_, hT2.out.trans hTT'.out, hJ2.out⟩⟩
section
variable {w w' : World} {B side : Nat} {F : Nat → Prop} {M : Nat → Nat → Bool}
set_option maxRecDepth 100000 in
set_option maxHeartbeats 4000000 in
/-- Cells: the sequence, made. -/
theorem qCells_any (h : Mx w B F side M) :
    Calls Tryz.prog 39 #[.pointer (some ⟨B, 0, none⟩)] w fun e w' => ∃ hb v, e = .returned (.func (.func 73) #[] #[.pointer (some ⟨hb, 0, none⟩)]) ∧ Bk w' hb 124 #[v] ∧
      w'.ownsRow w.heap.size 131 66 v (placesL M side).length (srows M (placesL M side)).flatten ∧ w.heap.size ≤ hb ∧ Far (fun _ => False) w w' := by
  have SP := qspots_any h
  clear h
  go_enter Tryz.func39, Tryz.ntmps39
  go_wp2_with fail
  refine SP.mono ?_
  rintro e w1 ⟨v, rfl, hO, hf⟩
  have hO' := Lib.hid hO
  have hf' := Lib.hid hf
  clear SP hO hf
  obtain ⟨ao, cap, rfl⟩ := q_form hO'.out
  go_wp2_with fail
  go_ret
  have hz := hf'.out.size
  exact ⟨_, _, rfl, Bk.new rfl, row_same hO'.out fun k _ hl => heap_alloc_old _ _ hl, hz, hf'.out.alloc _⟩
end
end Go.Proofs.YtjolkhiggcmoiaaGreatDoor
