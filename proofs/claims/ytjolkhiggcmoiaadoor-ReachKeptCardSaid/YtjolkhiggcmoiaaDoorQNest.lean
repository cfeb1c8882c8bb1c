/-
  A range over a function within a round of a range over a function.
-/
import Derived.Test.YtjolkhiggcmoiaaDoorQSeqs
import Derived.RangeFuncNested
namespace Go.Proofs.YtjolkhiggcmoiaaDoor
open Go.RowKit Go.Shelf
set_option linter.unusedVariables false
set_option linter.unusedSimpArgs false
/-- As range_ok; the body is told of its own loop's record. -/
theorem range_okH {α : Type} {P : Program} {g : Operand} {ps : Array Tmp} {assign body : Code} {Q : Exit → Act → World → Prop} {a : Act} {w : World} {n : Nat} (h1 : 1 ≤ n) {gf : Nat} {lb : Array Value}
    (hg : a.eval g = .func (.func gf) #[] lb) (eg : ∀ args w, (callFunc gf args).run P w = .ok (.enter gf args) w)
    {encs : α → Array Value} {Ok : List α → α → World → Prop} {Kp : World → World → Prop} {S Sp : List α → Prop} (hseq : SeqOk (n - 1) P gf lb encs Ok Kp S Sp w)
    (hKt : ∀ {A B C : World}, Kp A B → Kp B C → Kp A C) (hKb : ∀ (W : World) (l : Nat) (o o' : Obj), w.heap.size ≤ l → W.heap[l]? = some o → o.isCells = false → Kp W (W.putObj l o')) (hps : ∀ x, (encs x).size = ps.size)
    (I : List α → World → Prop) (Ix : Code → List α → World → Prop) (hI : OwnFrom w.heap.size I) (hIx : ∀ c, OwnFrom w.heap.size (Ix c)) (h0 : I [] w) (Ax : List α → α → Act → World → Prop) (hAx : ∀ pre x a', OwnFrom w.heap.size (fun (_ : Unit) W => Ax pre x a' W))
    (hassign : ∀ (l : Nat) (pre : List α) (x : α) (W : World) (K : Act → World → Prop), I pre W → Ok pre x W → (∀ a' W', KeepsFrom w.heap.size W W' → Kp W W' → I pre W' → Ax pre x a' W' → K a' W') →
      assign.wpIn (Fence.wide.inRound l) (n - 1 - 1) P (Exit.then K (fun _ _ _ => False)) { tmps := (ps.zip (encs x)).foldl (fun t (p, v) => t.setIfInBounds p v) a.tmps, defers := [] } W)
    (hbody : ∀ (l : Nat) (pre : List α) (x : α) (a' : Act) (W : World), w.heap.size ≤ l → (∃ r, W.heap[l]? = some (.loop r)) → I pre W → Ax pre x a' W → body.wpIn (Fence.wide.inRound l) (n - 1 - 1) P (ownPostG w.heap.size Kp I Ix (pre ++ [x]) W) a' W)
    (hdone : ∀ (D : Nat) (xs : List α) (W : World), w.heap.size ≤ D → S xs → I xs W → W.heap[D]? = some (.deferred (some [])) → Q .normal { a with defers := { target := .collected D, args := #[] } :: a.defers } W)
    (hstop : ∀ (D : Nat) (c : Code) (pre : List α) (W : World), w.heap.size ≤ D → Sp pre → Ix c pre W → W.heap[D]? = some (.deferred (some [])) → c.wpIn Fence.wide n P Q { a with defers := { target := .collected D, args := #[] } :: a.defers } W) :
    (Code.rangeFunc g ps assign body).wpIn Fence.wide n P Q a w := by
  refine wpIn_rangeFunc fun fn hfn => ?_
  rw [Fence.wide_round]
  obtain ⟨kD, hkD⟩ : ∃ k, k = w.heap.size := ⟨_, rfl⟩
  obtain ⟨kL, hkL⟩ : ∃ k, k = kD + 1 := ⟨_, rfl⟩
  obtain ⟨rec, hrec⟩ : ∃ rec : LoopState → Option Code → Loop, rec = fun st pe => { state := st, pending := pe, fn, tmps := a.tmps, params := ps, assign, body, defers := kD } := ⟨_, rfl⟩
  obtain ⟨Wa, hWa⟩ : ∃ Wa, Wa = w.alloc (.deferred (some [])) := ⟨_, rfl⟩
  obtain ⟨Wb, hWb⟩ : ∃ Wb, Wb = Wa.alloc (.loop (rec .ready none)) := ⟨_, rfl⟩
  have sa : Wa.heap.size = kL := by rw [hWa, World.size_alloc, hkL, hkD]
  have nD : Wa.heap[kD]? = some (.deferred (some [])) := by rw [hWa, hkD]; exact World.alloc_heap_new w _
  have gD : Wb.heap[kD]? = some (.deferred (some [])) := by rw [hWb]; exact (heap_alloc_old Wa _ (by omega)).trans nD
  have gL : Wb.heap[kL]? = some (.loop (rec .ready none)) := by rw [hWb, ← sa]; exact World.alloc_heap_new Wa _
  have iB : I [] Wb := by rw [hWb]; exact hI.alloc _ (by rw [hWa]; exact hI.alloc _ h0)
  have bB : Below w.heap.size w Wb := by rw [hWb, hWa]; exact ((Below.refl _ w).alloc (Nat.le_refl _) _).alloc (by simp) _
  have szB : Wb.heap.size = kL + 1 := by rw [hWb, World.size_alloc, sa]
  /- the two blocks that keep the loop's book lie as they lay -/
  have book : ∀ {A B : World} {row : Option Nat} {k : Nat} {o : Obj}, A.grownBy B row → (∀ r, row = some r → ∃ o : Obj, A.heap[r]? = some o ∧ o.isWalk = true) → A.heap[k]? = some o → o.isWalk = false → B.heap[k]? = some o := fun hgr hr hk ho =>
    (grownBy_keeps hgr hr hk ho).trans hk
  refine ⟨kL, [{ target := .collected kD, args := #[] }], Wb, { target := .fn (.func gf) lb, args := #[.func (.yield kL) #[] #[]] }, Wb, gf, #[.func (.yield kL) #[] #[]] ++ lb, Wb, ?_, ?_, ?_, ?_, fun _ => h1, ?_⟩
  · rw [hWb, hWa, hrec, hkL, hkD]; exact run_enterLoop_outer _ _ _ _ _
  · simp only [resolve, hg]; simp [go_sem]
  · intro f' hf'; trivial
  · simp [invoke, go_sem, eg]
  · refine (hseq kL (fun pre W => I pre W ∧ W.heap[kL]? = some (.loop (rec .ready none)) ∧ W.heap[kD]? = some (.deferred (some [])))
      (fun pre W => ∃ c, Ix c pre W ∧ W.heap[kL]? = some (.loop (rec .done (some c))) ∧ W.heap[kD]? = some (.deferred (some []))) Wb bB ?_ ?_ ⟨iB, gL, gD⟩).mono ?_
    · rintro s A B row ⟨q1, q2, q3⟩ hgr hr
      refine ⟨hI s A B row q1 hgr fun r e => ?_, book hgr (fun r e => (hr r e).2) q2 rfl, book hgr (fun r e => (hr r e).2) q3 rfl⟩
      obtain ⟨p1, o, p2, p3⟩ := hr r e
      exact ⟨by omega, o, p2, Obj.not_cells_of_walk p3⟩
    · rintro pre x W ⟨q1, q2, q3⟩ hok
      have hy := run_yield (P := P) (args := encs x) q2 (by rw [hrec]; exact hps x)
      rw [hrec] at hy
      refine ⟨fn, _, assign, body, hy, roundIn_of_wpIn hfn (hassign kL pre x W _ q1 hok fun a' V hkf hkp hi hax => ?_)⟩
      have vL := hkf.same kL _ (by omega) q2 rfl
      have vD := hkf.same kD _ (by omega) q3 rfl
      refine ⟨_, run_beginRound vL (by rw [hrec]), ?_⟩
      obtain ⟨V2, hV2⟩ : ∃ V2, V2 = V.putObj kL (.loop { rec .ready none with state := .busy }) := ⟨_, rfl⟩
      have uL : V2.heap[kL]? = some (.loop { rec .ready none with state := .busy }) := by rw [hV2]; exact World.putObj_heap_same (Array.getElem?_eq_some_iff.1 vL).1
      have uD : V2.heap[kD]? = some (.deferred (some [])) := by rw [hV2]; exact (World.putObj_heap_other (by omega)).trans vD
      have kp2 : Kp V V2 := by rw [hV2]; exact hKb V kL _ _ (by omega) vL rfl
      have i2 : I pre V2 := by rw [hV2]; exact hI.putObj _ hi (by omega) vL rfl
      have a2 : Ax pre x a' V2 := by rw [hV2]; exact (hAx pre x a').putObj (s := ()) _ hax (by omega) vL rfl
      rw [← hV2]
      clear hV2
      refine wpIn_mono (hbody kL pre x a' V2 (by omega) ⟨_, uL⟩ i2 a2) fun e a3 W3 hp => ?_
      have over : ∀ jump : Option Code, KeepsFrom w.heap.size V2 W3 → W3.heap[kL]? = some (.loop { rec .ready none with state := .busy }) ∧
          (Instr.endRound kL jump).run P W3 = .ok (.bool jump.isNone) (W3.putObj kL (.loop (rec (if jump.isNone then .ready else .done) jump))) ∧
          (W3.putObj kL (.loop (rec (if jump.isNone then .ready else .done) jump))).heap[kL]? = some (.loop (rec (if jump.isNone then .ready else .done) jump)) ∧
          (W3.putObj kL (.loop (rec (if jump.isNone then .ready else .done) jump))).heap[kD]? = some (.deferred (some [])) := fun jump hk3 => by
        have t3 := hk3.same kL _ (by omega) uL rfl
        have t4 := hk3.same kD _ (by omega) uD rfl
        refine ⟨t3, ?_, World.putObj_heap_same (Array.getElem?_eq_some_iff.1 t3).1, (World.putObj_heap_other (by omega)).trans t4⟩
        have := run_endRound (P := P) jump t3
        rw [hrec] at this ⊢
        exact this
      have left : ∀ c : Code, KeepsFrom w.heap.size V2 W3 → Ix c (pre ++ [x]) W3 → ∃ v W', (Instr.endRound kL (some c)).run P W3 = .ok v W' ∧ v = .bool false ∧ ∃ c, Ix c (pre ++ [x]) W' ∧ W'.heap[kL]? = some (.loop (rec .done (some c))) ∧ W'.heap[kD]? = some (.deferred (some [])) := fun c hk3 hi3 => by
        obtain ⟨t0, t1, t2, t3⟩ := over (some c) hk3
        exact ⟨_, _, t1, rfl, c, (hIx c).putObj _ hi3 (by omega) t0 rfl, t2, t3⟩
      cases e with
      | normal =>
        obtain ⟨hk3, hkp3, hi3⟩ := hp
        obtain ⟨t0, t1, t2, t3⟩ := over none hk3
        exact ⟨_, _, t1, .inl ⟨rfl, ⟨hI.putObj _ hi3 (by omega) t0 rfl, t2, t3⟩, hKt hkp (hKt (hKt kp2 hkp3) (hKb _ _ _ _ (by omega) t0 rfl))⟩⟩
      | ret => obtain ⟨v, W', r1, rfl, r2⟩ := left .ret hp.1 hp.2; exact ⟨_, _, r1, .inr ⟨rfl, r2⟩⟩
      | exit id => obtain ⟨v, W', r1, rfl, r2⟩ := left (.exit id) hp.1 hp.2; exact ⟨_, _, r1, .inr ⟨rfl, r2⟩⟩
      | goto t => obtain ⟨v, W', r1, rfl, r2⟩ := left (.goto t) hp.1 hp.2; exact ⟨_, _, r1, .inr ⟨rfl, r2⟩⟩
      | panic ch => exact hp.elim
      | outgrown => exact hp.elim
    · have over : ∀ (W2 : World) (st : LoopState) (pe : Option Code), st ≠ .busy → W2.heap[kL]? = some (.loop (rec st pe)) → ∃ W', (Instr.endLoop kL).run P W2 = .ok pe W' := fun W2 st pe hst hl => ⟨_, by
        have := run_endLoop (P := P) hl (by rw [hrec]; exact hst)
        rw [hrec] at this
        exact this⟩
      rintro e W2 ⟨⟨v, rfl⟩, ⟨xs, hS, hi, hl, hk⟩ | ⟨pre, hSp, c, hi, hl, hk⟩⟩
      · have r := run_endLoop (P := P) hl (by rw [hrec]; simp)
        rw [hrec] at r
        exact ⟨none, _, r, hkD ▸ hdone kD xs _ (by omega) hS (hI.putObj _ hi (by omega) hl rfl) ((World.putObj_heap_other (by omega)).trans hk)⟩
      · have r := run_endLoop (P := P) hl (by rw [hrec]; simp)
        rw [hrec] at r
        exact ⟨some c, _, r, hkD ▸ hstop kD c pre _ (by omega) hSp ((hIx c).putObj _ hi (by omega) hl rfl) ((World.putObj_heap_other (by omega)).trans hk)⟩
/-- A range over a function within a round of loop l₀. -/
theorem range_in {α : Type} {P : Program} {g : Operand} {ps : Array Tmp} {assign body : Code} {Q : Exit → Act → World → Prop} {a : Act} {w : World} {n : Nat} {l₀ : Nat} {r₀ : Loop} (hl₀ : w.heap[l₀]? = some (.loop r₀)) (h1 : 1 ≤ n) {gf : Nat} {lb : Array Value}
    (hg : a.eval g = .func (.func gf) #[] lb) (eg : ∀ args w, (callFunc gf args).run P w = .ok (.enter gf args) w)
    {encs : α → Array Value} {Ok : List α → α → World → Prop} {Kp : World → World → Prop} {S Sp : List α → Prop} (hseq : SeqOk (n - 1) P gf lb encs Ok Kp S Sp w)
    (hKt : ∀ {A B C : World}, Kp A B → Kp B C → Kp A C) (hKb : ∀ (W : World) (l : Nat) (o o' : Obj), w.heap.size ≤ l → W.heap[l]? = some o → o.isCells = false → Kp W (W.putObj l o')) (hps : ∀ x, (encs x).size = ps.size)
    (I : List α → World → Prop) (Ix : Code → List α → World → Prop) (hI : OwnFrom w.heap.size I) (hIx : ∀ c, OwnFrom w.heap.size (Ix c)) (h0 : I [] w) (Ax : List α → α → Act → World → Prop) (hAx : ∀ pre x a', OwnFrom w.heap.size (fun (_ : Unit) W => Ax pre x a' W))
    (hassign : ∀ (l : Nat) (pre : List α) (x : α) (W : World) (K : Act → World → Prop), I pre W → Ok pre x W → (∀ a' W', KeepsFrom w.heap.size W W' → Kp W W' → I pre W' → Ax pre x a' W' → K a' W') →
      assign.wpIn (Fence.wide.inRound l) (n - 1 - 1) P (Exit.then K (fun _ _ _ => False)) { tmps := (ps.zip (encs x)).foldl (fun t (p, v) => t.setIfInBounds p v) a.tmps, defers := [] } W)
    (hbody : ∀ (l : Nat) (pre : List α) (x : α) (a' : Act) (W : World), w.heap.size ≤ l → (∃ r, W.heap[l]? = some (.loop r)) → I pre W → Ax pre x a' W → body.wpIn (Fence.wide.inRound l) (n - 1 - 1) P (ownPostG w.heap.size Kp I Ix (pre ++ [x]) W) a' W)
    (hdone : ∀ (xs : List α) (W : World), S xs → I xs W → Q .normal a W)
    (hstop : ∀ (c : Code) (pre : List α) (W : World), Sp pre → Ix c pre W → c.wpIn (Fence.wide.inRound l₀) n P Q a W) :
    (Code.rangeFunc g ps assign body).wpIn (Fence.wide.inRound l₀) n P Q a w := by
  refine wpIn_rangeFunc fun fn hfn => ?_
  rw [show (Fence.wide.inRound l₀).round = some l₀ from rfl]
  obtain ⟨kL, hkL⟩ : ∃ k, k = w.heap.size := ⟨_, rfl⟩
  obtain ⟨rec, hrec⟩ : ∃ rec : LoopState → Option Code → Loop, rec = fun st pe => { state := st, pending := pe, fn, tmps := a.tmps, params := ps, assign, body, defers := r₀.defers } := ⟨_, rfl⟩
  obtain ⟨Wb, hWb⟩ : ∃ Wb, Wb = w.alloc (.loop (rec .ready none)) := ⟨_, rfl⟩
  have gL : Wb.heap[kL]? = some (.loop (rec .ready none)) := by rw [hWb, hkL]; exact World.alloc_heap_new w _
  have iB : I [] Wb := by rw [hWb]; exact hI.alloc _ h0
  have bB : Below w.heap.size w Wb := by rw [hWb]; exact (Below.refl _ w).alloc (Nat.le_refl _) _
  have szB : Wb.heap.size = kL + 1 := by rw [hWb, World.size_alloc, hkL]
  have book : ∀ {A B : World} {row : Option Nat} {k : Nat} {o : Obj}, A.grownBy B row → (∀ r, row = some r → ∃ o : Obj, A.heap[r]? = some o ∧ o.isWalk = true) → A.heap[k]? = some o → o.isWalk = false → B.heap[k]? = some o := fun hgr hr hk ho =>
    (grownBy_keeps hgr hr hk ho).trans hk
  refine ⟨kL, [], Wb, { target := .fn (.func gf) lb, args := #[.func (.yield kL) #[] #[]] }, Wb, gf, #[.func (.yield kL) #[] #[]] ++ lb, Wb, ?_, ?_, ?_, ?_, fun _ => h1, ?_⟩
  · rw [hWb, hrec, hkL]; exact run_enterLoop_inner hl₀ _ _ _ _ _
  · simp only [resolve, hg]; simp [go_sem]
  · intro f' hf'; trivial
  · simp [invoke, go_sem, eg]
  · refine (hseq kL (fun pre W => I pre W ∧ W.heap[kL]? = some (.loop (rec .ready none)))
      (fun pre W => ∃ c, Ix c pre W ∧ W.heap[kL]? = some (.loop (rec .done (some c)))) Wb bB ?_ ?_ ⟨iB, gL⟩).mono ?_
    · rintro s A B row ⟨q1, q2⟩ hgr hr
      refine ⟨hI s A B row q1 hgr fun r e => ?_, book hgr (fun r e => (hr r e).2) q2 rfl⟩
      obtain ⟨p1, o, p2, p3⟩ := hr r e
      exact ⟨by omega, o, p2, Obj.not_cells_of_walk p3⟩
    · rintro pre x W ⟨q1, q2⟩ hok
      have hy := run_yield (P := P) (args := encs x) q2 (by rw [hrec]; exact hps x)
      rw [hrec] at hy
      refine ⟨fn, _, assign, body, hy, roundIn_of_wpIn hfn (hassign kL pre x W _ q1 hok fun a' V hkf hkp hi hax => ?_)⟩
      have vL := hkf.same kL _ (by omega) q2 rfl
      refine ⟨_, run_beginRound vL (by rw [hrec]), ?_⟩
      obtain ⟨V2, hV2⟩ : ∃ V2, V2 = V.putObj kL (.loop { rec .ready none with state := .busy }) := ⟨_, rfl⟩
      have uL : V2.heap[kL]? = some (.loop { rec .ready none with state := .busy }) := by rw [hV2]; exact World.putObj_heap_same (Array.getElem?_eq_some_iff.1 vL).1
      have kp2 : Kp V V2 := by rw [hV2]; exact hKb V kL _ _ (by omega) vL rfl
      have i2 : I pre V2 := by rw [hV2]; exact hI.putObj _ hi (by omega) vL rfl
      have a2 : Ax pre x a' V2 := by rw [hV2]; exact (hAx pre x a').putObj (s := ()) _ hax (by omega) vL rfl
      rw [← hV2]
      clear hV2
      refine wpIn_mono (hbody kL pre x a' V2 (by omega) ⟨_, uL⟩ i2 a2) fun e a3 W3 hp => ?_
      have over : ∀ jump : Option Code, KeepsFrom w.heap.size V2 W3 → W3.heap[kL]? = some (.loop { rec .ready none with state := .busy }) ∧
          (Instr.endRound kL jump).run P W3 = .ok (.bool jump.isNone) (W3.putObj kL (.loop (rec (if jump.isNone then .ready else .done) jump))) ∧
          (W3.putObj kL (.loop (rec (if jump.isNone then .ready else .done) jump))).heap[kL]? = some (.loop (rec (if jump.isNone then .ready else .done) jump)) := fun jump hk3 => by
        have t3 := hk3.same kL _ (by omega) uL rfl
        refine ⟨t3, ?_, World.putObj_heap_same (Array.getElem?_eq_some_iff.1 t3).1⟩
        have := run_endRound (P := P) jump t3
        rw [hrec] at this ⊢
        exact this
      have left : ∀ c : Code, KeepsFrom w.heap.size V2 W3 → Ix c (pre ++ [x]) W3 → ∃ v W', (Instr.endRound kL (some c)).run P W3 = .ok v W' ∧ v = .bool false ∧ ∃ c, Ix c (pre ++ [x]) W' ∧ W'.heap[kL]? = some (.loop (rec .done (some c))) := fun c hk3 hi3 => by
        obtain ⟨t0, t1, t2⟩ := over (some c) hk3
        exact ⟨_, _, t1, rfl, c, (hIx c).putObj _ hi3 (by omega) t0 rfl, t2⟩
      cases e with
      | normal =>
        obtain ⟨hk3, hkp3, hi3⟩ := hp
        obtain ⟨t0, t1, t2⟩ := over none hk3
        exact ⟨_, _, t1, .inl ⟨rfl, ⟨hI.putObj _ hi3 (by omega) t0 rfl, t2⟩, hKt hkp (hKt (hKt kp2 hkp3) (hKb _ _ _ _ (by omega) t0 rfl))⟩⟩
      | ret => obtain ⟨v, W', r1, rfl, r2⟩ := left .ret hp.1 hp.2; exact ⟨_, _, r1, .inr ⟨rfl, r2⟩⟩
      | exit id => obtain ⟨v, W', r1, rfl, r2⟩ := left (.exit id) hp.1 hp.2; exact ⟨_, _, r1, .inr ⟨rfl, r2⟩⟩
      | goto t => obtain ⟨v, W', r1, rfl, r2⟩ := left (.goto t) hp.1 hp.2; exact ⟨_, _, r1, .inr ⟨rfl, r2⟩⟩
      | panic ch => exact hp.elim
      | outgrown => exact hp.elim
    · rintro e W2 ⟨⟨v, rfl⟩, ⟨xs, hS, hi, hl⟩ | ⟨pre, hSp, c, hi, hl⟩⟩
      · have r := run_endLoop (P := P) hl (by rw [hrec]; simp)
        rw [hrec] at r
        exact ⟨none, _, r, hdone xs _ hS (hI.putObj _ hi (by omega) hl rfl)⟩
      · have r := run_endLoop (P := P) hl (by rw [hrec]; simp)
        rw [hrec] at r
        exact ⟨some c, _, r, hstop c pre _ hSp ((hIx c).putObj _ hi (by omega) hl rfl)⟩
end Go.Proofs.YtjolkhiggcmoiaaDoor
