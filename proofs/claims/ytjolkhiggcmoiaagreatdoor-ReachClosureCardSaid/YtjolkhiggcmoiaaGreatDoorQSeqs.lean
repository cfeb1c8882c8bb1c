/-
  QSeqs: QRangeKit, QBSeq, QBCells, QIn.
-/
import Derived.Test.YtjolkhiggcmoiaaGreatDoorQLaws
import Derived.RangeFuncNested
import Derived.RangeFuncBound
import Derived.RangeFuncCalls
import Derived.RangeFuncLeaves
import Derived.Shelf.Abstract
import Derived.Shelf.RegionOpen
import Derived.OwnWalkIn
import Derived.TacticsInMore
import Derived.LoopNIn
import Derived.LoopIn
import Derived.Sort.QuietTacIn
import Derived.BigFrameIn
import Derived.Test.YtjolkhiggcmoiaaGreatDoorQBase
import Derived.WalkKit
import Derived.Deep.RegionHeld
/-! ## QRangeKit: Loops over a function: a drawn region that only reads in a round; what is kept of memory. -/
namespace Go.Proofs.YtjolkhiggcmoiaaGreatDoor
open Go.RowKit Go.Shelf
set_option linter.unusedVariables false
set_option linter.unusedSimpArgs false
/-! ### A drawn region that only reads, whether or not it stands in a round -/
def noDefer (ops : Array Oper) : Bool := ops.toList.all fun o => match o.op with | .defer _ => false | _ => true
theorem sem_plain (r : Option Nat) (ρ : Operand → Value) (o : Oper) (h : ∀ c, o.op ≠ .defer c) : Oper.semAt r ρ o = execOp ρ o := by
  cases r with
  | none => exact Oper.semAt_none ρ o
  | some l => exact Oper.semAt_some l ρ o h
section
variable {F : Fence} {n : Nat} {P : Program} {ops : Array Oper} {C : World → Prop}
theorem op_reads {o : Oper} {a : Act} {K : Act → Prop} {K' : Act → World → Prop} {Q' : Exit → Act → World → Prop} {w : World} (hd : ∀ c, o.op ≠ .defer c) (hC : C w) (hK : ∀ a w', C w' → K a → K' a w')
    (ha : o.askedIn F P a C) (hq : o.quietIn F n P a C K) : o.wpIn F n P a w K' Q' := by
  obtain ⟨v, hv, hn⟩ := hq
  have hv := hv w hC
  refine ⟨ha w hC, ?_⟩
  rw [sem_plain F.round a.eval o hd]
  unfold Oper.quietAtIn at hv
  cases hr : (execOp a.eval o).run P w with
  | halt x w' => rw [hr] at hv; exact hv.elim
  | ok x w' =>
    rw [hr] at hv
    cases x with
    | value u => obtain ⟨rfl, rfl⟩ := hv; exact hK _ _ hC hn
    | skip => obtain ⟨rfl, rfl⟩ := hv; exact hK _ _ hC hn
    | enter f args =>
      obtain ⟨rfl, h1, hc⟩ := hv
      exact ⟨h1, hc.mono fun e w'' ⟨he, hw⟩ => by subst he; exact hK _ _ hw hn⟩
    | defer d => exact hv.elim
    | row r args => exact hv.elim
    | round l f t c1 c2 => exact hv.elim
    | _ => exact hv.elim
theorem any_reads {Q : Act → Prop} {Q' : Exit → Act → World → Prop} {md : Region.Mode} (hd : ∀ (i : Nat) (o : Oper), ops[i]? = some o → ∀ c, o.op ≠ .defer c) (hQ : ∀ a w, C w → Q a → Q' .normal a w) :
    ∀ (fuel : Nat) (listed : Array Bool) (a : Act) (w : World), C w → wpAnyQIn F n P md ops C Q fuel listed a → wpAnyIn F n P md ops Q' fuel listed a w
  | 0, _, _, _, hw, h => ⟨h.1, hQ _ _ hw h.2⟩
  | fuel + 1, listed, a, w, hw, h => ⟨fun h0 => hQ _ _ hw (h.1 h0), fun i hi => by
      have hi := h.2 i hi
      have ih := fun (a : Act) (w' : World) (hw' : C w') => any_reads (md := md) hd hQ fuel (listed.setIfInBounds i true) a w' hw'
      unfold qOpIn at hi
      unfold wpOpIn
      cases ho : ops[i]? with
      | none => rw [ho] at hi; exact ih _ _ hw hi
      | some o =>
        rw [ho] at hi
        simp only at hi ⊢
        obtain ⟨ha, hi⟩ := hi
        by_cases hwt : Region.wanted o (yielded ops a.tmps) = true
        · rw [if_pos hwt] at hi ⊢
          exact op_reads (hd i o ho) hw ih ha hi
        · rw [if_neg hwt] at hi ⊢
          exact ⟨ha _ hw, ih _ _ hw hi⟩⟩
theorem region_reads {id : Nat} {Q : Exit → Act → World → Prop} {a : Act} {w : World} {l : List Oper} (hnd : noDefer l.toArray = true) (hm : P.follows .mixedOrders = true) (hB : Region.lexB .any l.toArray = true)
    (h : wpQuietIn F n P l.toArray (fun w' => ∃ k, w' = w.drewN k) (fun a' => ∀ w', (∃ k, w' = w.drewN k) → Q .normal a' w') l a) : (Code.region id l.toArray true).wpIn F n P Q a w := by
  simp only [Region.lexB, Bool.and_eq_true] at hB
  have hd : ∀ (i : Nat) (o : Oper), l.toArray[i]? = some o → ∀ c, o.op ≠ .defer c := fun i o ho c hc => by
    have hm : o ∈ l := by have := Array.mem_of_getElem? ho; simpa using this
    have := List.all_eq_true.1 hnd o (by simpa using hm)
    rw [hc] at this
    cases this
  refine wpIn_region_any hm (any_reads (C := fun w' => ∃ k, w' = w.drewN k) (Q := fun a' => ∀ w', (∃ k, w' = w.drewN k) → Q .normal a' w') hd (fun _ w' hw' h => h w' hw') _ _ _ _ ⟨1, rfl⟩ ?_)
  have := wpAnyQIn_lex (F := F) (n := n) (C := fun w' => ∃ k, w' = w.drewN k) (md := .any) hB.1 l 0 (Array.replicate l.toArray.size false) a (by simp) (by simpa using hB.2) h
  simpa using this
end
/-! ### What is kept -/
theorem Bk.below {w w' : World} {g B : Nat} {t : TypeId} {cs : Array Value} (h : Bk w g t cs) (hb : Below B w w') (hg : g < B) : Bk w' g t cs := (hb.block g hg).trans h
theorem Bk.grownR {w w' : World} {g : Nat} {t : TypeId} {cs : Array Value} {row : Option Nat} (h : Bk w g t cs) (hg : w.grownBy w' row) (hne : some g ≠ row) : Bk w' g t cs := (hg.block g h.lt hne).trans h
theorem Bk.kept {w w' : World} {g : Nat} {t : TypeId} {cs : Array Value} {row : Option Nat} {B : Nat} (h : Bk w g t cs) (hg : w.grownBy w' row) (hr : ∀ r, row = some r → B ≤ r ∧ ∃ o : Obj, w.heap[r]? = some o ∧ o.isCells = false) : Bk w' g t cs :=
  h.grownR hg fun e => by
    obtain ⟨_, o, ho, hc⟩ := hr g e.symm
    have : w.heap[g]? = some (.cells cs t (0, 0)) := h
    rw [this] at ho
    cases ho
    cases hc
theorem Bk.drewN {w : World} {g : Nat} {t : TypeId} {cs : Array Value} (h : Bk w g t cs) (q : Nat) : Bk (w.drewN q) g t cs := h
/-- The blocks K are as they were. -/
def KeepK (K : Nat → Prop) (A B : World) : Prop := ∀ k, K k → B.heap[k]? = A.heap[k]?
theorem keepK_t {K : Nat → Prop} {A B C : World} (h : KeepK K A B) (k : KeepK K B C) : KeepK K A C := fun i hi => (k i hi).trans (h i hi)
theorem KeepK.of_far {K F : Nat → Prop} {A B : World} (h : Far F A B) (hK : ∀ k, K k → k < A.heap.size ∧ ¬ F k) : KeepK K A B := fun k hk => h.block k (hK k hk).1 (hK k hk).2
theorem Bk.keep {K : Nat → Prop} {A B : World} {g : Nat} {t : TypeId} {cs : Array Value} (h : Bk A g t cs) (k : KeepK K A B) (hg : K g) : Bk B g t cs := (k g hg).trans h
theorem keeps_far {B : Nat} {F : Nat → Prop} {W W' : World} (h : Far F W W') (hF : ∀ k, F k → ∃ cs t, Bk W k t cs) : KeepsFrom B W W' :=
  ⟨h.size, fun k o _ hk ho => by
    refine (h.block k (Array.getElem?_eq_some_iff.1 hk).1 fun hf => ?_).trans hk
    obtain ⟨cs, t, hb⟩ := hF k hf
    rw [hb] at hk
    cases hk
    cases ho⟩
theorem far_own {F : Nat → Prop} {W0 A B : World} {row : Option Nat} (h : Far F W0 A) (hg : A.grownBy B row) (hr : ∀ r, row = some r → W0.heap.size ≤ r ∧ ∃ o : Obj, A.heap[r]? = some o ∧ o.isCells = false) : Far F W0 B :=
  h.grown hg fun k hk e => absurd (hr k e).1 (by omega)
theorem prefix_next {α : Type} {pre l : List α} {x y : α} (hp : pre <+: l) (hy : l[pre.length]? = some y) : (pre ++ [x]) <+: l ↔ x = y := by
  obtain ⟨t, rfl⟩ := hp
  rw [List.getElem?_append_right (Nat.le_refl _), Nat.sub_self] at hy
  cases t with
  | nil => simp at hy
  | cons z t =>
    have hz : z = y := by simpa using hy
    rw [List.prefix_append_right_inj]
    subst hz
    simp [List.cons_prefix_cons]
theorem prefix_take {α : Type} {l : List α} {i : Nat} : l.take i <+: l := List.take_prefix i l
/-! A loop over a function whose values lie in memory: what is handed out is good in the world in which it is handed out. -/
def SeqOk {α : Type} (n : Nat) (P : Program) (gf : Nat) (lb : Array Value) (encs : α → Array Value) (Ok : List α → α → World → Prop) (Kp : World → World → Prop) (S Sp : List α → Prop) (w : World) : Prop :=
  ∀ (l : Nat) (J Jx : List α → World → Prop) (W : World), Below w.heap.size w W → AbidesFrom W.heap.size J →
    (∀ pre x W1, J pre W1 → Ok pre x W1 → YieldAt Fence.wide (n - 1) P l (encs x) W1 fun e W' =>
      (e = .returned (.bool true) ∧ J (pre ++ [x]) W' ∧ Kp W1 W') ∨ (e = .returned (.bool false) ∧ Jx (pre ++ [x]) W')) →
    J [] W → CallsIn Fence.wide n P gf (#[.func (.yield l) #[] #[]] ++ lb) W fun e W' => (∃ v, e = .returned v) ∧ ((∃ xs, S xs ∧ J xs W') ∨ (∃ pre, Sp pre ∧ Jx pre W'))
theorem range_ok {α : Type} {P : Program} {g : Operand} {ps : Array Tmp} {assign body : Code} {Q : Exit → Act → World → Prop} {a : Act} {w : World} {n : Nat} (h1 : 1 ≤ n) {gf : Nat} {lb : Array Value}
    (hg : a.eval g = .func (.func gf) #[] lb) (eg : ∀ args w, (callFunc gf args).run P w = .ok (.enter gf args) w)
    {encs : α → Array Value} {Ok : List α → α → World → Prop} {Kp : World → World → Prop} {S Sp : List α → Prop} (hseq : SeqOk (n - 1) P gf lb encs Ok Kp S Sp w)
    (hKt : ∀ {A B C : World}, Kp A B → Kp B C → Kp A C) (hKb : ∀ (W : World) (l : Nat) (o o' : Obj), w.heap.size ≤ l → W.heap[l]? = some o → o.isCells = false → Kp W (W.putObj l o')) (hps : ∀ x, (encs x).size = ps.size)
    (I : List α → World → Prop) (Ix : Code → List α → World → Prop) (hI : OwnFrom w.heap.size I) (hIx : ∀ c, OwnFrom w.heap.size (Ix c)) (h0 : I [] w) (Ax : List α → α → Act → World → Prop) (hAx : ∀ pre x a', OwnFrom w.heap.size (fun (_ : Unit) W => Ax pre x a' W))
    (hassign : ∀ (l : Nat) (pre : List α) (x : α) (W : World) (K : Act → World → Prop), I pre W → Ok pre x W → (∀ a' W', KeepsFrom w.heap.size W W' → Kp W W' → I pre W' → Ax pre x a' W' → K a' W') →
      assign.wpIn (Fence.wide.inRound l) (n - 1 - 1) P (Exit.then K (fun _ _ _ => False)) { tmps := (ps.zip (encs x)).foldl (fun t (p, v) => t.setIfInBounds p v) a.tmps, defers := [] } W)
    (hbody : ∀ (l : Nat) (pre : List α) (x : α) (a' : Act) (W : World), w.heap.size ≤ l → I pre W → Ax pre x a' W → body.wpIn (Fence.wide.inRound l) (n - 1 - 1) P (ownPostG w.heap.size Kp I Ix (pre ++ [x]) W) a' W)
    (hdone : ∀ (D : Nat) (xs : List α) (W : World), w.heap.size ≤ D → S xs → I xs W → W.heap[D]? = some (.deferred (some [])) → Q .normal { a with defers := { target := .collected D, args := #[] } :: a.defers } W)
    (hstop : ∀ (D : Nat) (c : Code) (pre : List α) (W : World), w.heap.size ≤ D → Sp pre → Ix c pre W → W.heap[D]? = some (.deferred (some [])) → c.wpIn Fence.wide n P Q { a with defers := { target := .collected D, args := #[] } :: a.defers } W) :
    (Code.rangeFunc g ps assign body).wpIn Fence.wide n P Q a w := by
  refine wpIn_rangeFunc fun fn hfn => ?_
  rw [Fence.wide_round]
  obtain ⟨kD, hkD⟩ : ∃ k, k = w.heap.size := ⟨_, rfl⟩
  obtain ⟨kL, hkL⟩ : ∃ k, k = kD + 1 := ⟨_, rfl⟩
  obtain ⟨rec, hrec⟩ : ∃ rec : LoopState → Option Code → Loop, rec = fun st pe => { state := st, pending := pe, fn, tmps := a.tmps, params := ps, assign, body, defers := kD } := ⟨_, rfl⟩
  obtain ⟨Wa, hWa⟩ : ∃ Wa, Wa = w.alloc (.deferred (some [])) := ⟨_, rfl⟩
  obtain ⟨Wb, hWb⟩ : ∃ Wb, Wb = Wa.alloc (.loop (rec .ready none)) := ⟨_, rfl⟩
  have sa : Wa.heap.size = kL := by rw [hWa, World.size_alloc, hkL, hkD]
  have nD : Wa.heap[kD]? = some (.deferred (some [])) := by rw [hWa, hkD]; exact World.alloc_heap_new w _
  have gD : Wb.heap[kD]? = some (.deferred (some [])) := by rw [hWb]; exact (heap_alloc_old Wa _ (by omega)).trans nD
  have gL : Wb.heap[kL]? = some (.loop (rec .ready none)) := by rw [hWb, ← sa]; exact World.alloc_heap_new Wa _
  have iB : I [] Wb := by rw [hWb]; exact hI.alloc _ (by rw [hWa]; exact hI.alloc _ h0)
  have bB : Below w.heap.size w Wb := by rw [hWb, hWa]; exact ((Below.refl _ w).alloc (Nat.le_refl _) _).alloc (by simp) _
  have szB : Wb.heap.size = kL + 1 := by rw [hWb, World.size_alloc, sa]
  /- the two blocks that keep the loop's book lie as they lay -/
  have book : ∀ {A B : World} {row : Option Nat} {k : Nat} {o : Obj}, A.grownBy B row → (∀ r, row = some r → ∃ o : Obj, A.heap[r]? = some o ∧ o.isWalk = true) → A.heap[k]? = some o → o.isWalk = false → B.heap[k]? = some o := fun hgr hr hk ho =>
    (grownBy_keeps hgr hr hk ho).trans hk
  refine ⟨kL, [{ target := .collected kD, args := #[] }], Wb, { target := .fn (.func gf) lb, args := #[.func (.yield kL) #[] #[]] }, Wb, gf, #[.func (.yield kL) #[] #[]] ++ lb, Wb, ?_, ?_, ?_, ?_, fun _ => h1, ?_⟩
  · rw [hWb, hWa, hrec, hkL, hkD]; exact run_enterLoop_outer _ _ _ _ _
  · simp only [resolve, hg]; simp [go_sem]
  · intro f' hf'; trivial
  · simp [invoke, go_sem, eg]
  · refine (hseq kL (fun pre W => I pre W ∧ W.heap[kL]? = some (.loop (rec .ready none)) ∧ W.heap[kD]? = some (.deferred (some [])))
      (fun pre W => ∃ c, Ix c pre W ∧ W.heap[kL]? = some (.loop (rec .done (some c))) ∧ W.heap[kD]? = some (.deferred (some []))) Wb bB ?_ ?_ ⟨iB, gL, gD⟩).mono ?_
    · rintro s A B row ⟨q1, q2, q3⟩ hgr hr
      refine ⟨hI s A B row q1 hgr fun r e => ?_, book hgr (fun r e => (hr r e).2) q2 rfl, book hgr (fun r e => (hr r e).2) q3 rfl⟩
      obtain ⟨p1, o, p2, p3⟩ := hr r e
      exact ⟨by omega, o, p2, Obj.not_cells_of_walk p3⟩
    · rintro pre x W ⟨q1, q2, q3⟩ hok
      have hy := run_yield (P := P) (args := encs x) q2 (by rw [hrec]; exact hps x)
      rw [hrec] at hy
      refine ⟨fn, _, assign, body, hy, roundIn_of_wpIn hfn (hassign kL pre x W _ q1 hok fun a' V hkf hkp hi hax => ?_)⟩
      have vL := hkf.same kL _ (by omega) q2 rfl
      have vD := hkf.same kD _ (by omega) q3 rfl
      refine ⟨_, run_beginRound vL (by rw [hrec]), ?_⟩
      obtain ⟨V2, hV2⟩ : ∃ V2, V2 = V.putObj kL (.loop { rec .ready none with state := .busy }) := ⟨_, rfl⟩
      have uL : V2.heap[kL]? = some (.loop { rec .ready none with state := .busy }) := by rw [hV2]; exact World.putObj_heap_same (Array.getElem?_eq_some_iff.1 vL).1
      have uD : V2.heap[kD]? = some (.deferred (some [])) := by rw [hV2]; exact (World.putObj_heap_other (by omega)).trans vD
      have kp2 : Kp V V2 := by rw [hV2]; exact hKb V kL _ _ (by omega) vL rfl
      have i2 : I pre V2 := by rw [hV2]; exact hI.putObj _ hi (by omega) vL rfl
      have a2 : Ax pre x a' V2 := by rw [hV2]; exact (hAx pre x a').putObj (s := ()) _ hax (by omega) vL rfl
      rw [← hV2]
      clear hV2
      refine wpIn_mono (hbody kL pre x a' V2 (by omega) i2 a2) fun e a3 W3 hp => ?_
      have over : ∀ jump : Option Code, KeepsFrom w.heap.size V2 W3 → W3.heap[kL]? = some (.loop { rec .ready none with state := .busy }) ∧
          (Instr.endRound kL jump).run P W3 = .ok (.bool jump.isNone) (W3.putObj kL (.loop (rec (if jump.isNone then .ready else .done) jump))) ∧
          (W3.putObj kL (.loop (rec (if jump.isNone then .ready else .done) jump))).heap[kL]? = some (.loop (rec (if jump.isNone then .ready else .done) jump)) ∧
          (W3.putObj kL (.loop (rec (if jump.isNone then .ready else .done) jump))).heap[kD]? = some (.deferred (some [])) := fun jump hk3 => by
        have t3 := hk3.same kL _ (by omega) uL rfl
        have t4 := hk3.same kD _ (by omega) uD rfl
        refine ⟨t3, ?_, World.putObj_heap_same (Array.getElem?_eq_some_iff.1 t3).1, (World.putObj_heap_other (by omega)).trans t4⟩
        have := run_endRound (P := P) jump t3
        rw [hrec] at this ⊢
        exact this
      have left : ∀ c : Code, KeepsFrom w.heap.size V2 W3 → Ix c (pre ++ [x]) W3 → ∃ v W', (Instr.endRound kL (some c)).run P W3 = .ok v W' ∧ v = .bool false ∧ ∃ c, Ix c (pre ++ [x]) W' ∧ W'.heap[kL]? = some (.loop (rec .done (some c))) ∧ W'.heap[kD]? = some (.deferred (some [])) := fun c hk3 hi3 => by
        obtain ⟨t0, t1, t2, t3⟩ := over (some c) hk3
        exact ⟨_, _, t1, rfl, c, (hIx c).putObj _ hi3 (by omega) t0 rfl, t2, t3⟩
      cases e with
      | normal =>
        obtain ⟨hk3, hkp3, hi3⟩ := hp
        obtain ⟨t0, t1, t2, t3⟩ := over none hk3
        exact ⟨_, _, t1, .inl ⟨rfl, ⟨hI.putObj _ hi3 (by omega) t0 rfl, t2, t3⟩, hKt hkp (hKt (hKt kp2 hkp3) (hKb _ _ _ _ (by omega) t0 rfl))⟩⟩
      | ret => obtain ⟨v, W', r1, rfl, r2⟩ := left .ret hp.1 hp.2; exact ⟨_, _, r1, .inr ⟨rfl, r2⟩⟩
      | exit id => obtain ⟨v, W', r1, rfl, r2⟩ := left (.exit id) hp.1 hp.2; exact ⟨_, _, r1, .inr ⟨rfl, r2⟩⟩
      | goto t => obtain ⟨v, W', r1, rfl, r2⟩ := left (.goto t) hp.1 hp.2; exact ⟨_, _, r1, .inr ⟨rfl, r2⟩⟩
      | panic ch => exact hp.elim
      | outgrown => exact hp.elim
    · have over : ∀ (W2 : World) (st : LoopState) (pe : Option Code), st ≠ .busy → W2.heap[kL]? = some (.loop (rec st pe)) → ∃ W', (Instr.endLoop kL).run P W2 = .ok pe W' := fun W2 st pe hst hl => ⟨_, by
        have := run_endLoop (P := P) hl (by rw [hrec]; exact hst)
        rw [hrec] at this
        exact this⟩
      rintro e W2 ⟨⟨v, rfl⟩, ⟨xs, hS, hi, hl, hk⟩ | ⟨pre, hSp, c, hi, hl, hk⟩⟩
      · have r := run_endLoop (P := P) hl (by rw [hrec]; simp)
        rw [hrec] at r
        exact ⟨none, _, r, hkD ▸ hdone kD xs _ (by omega) hS (hI.putObj _ hi (by omega) hl rfl) ((World.putObj_heap_other (by omega)).trans hk)⟩
      · have r := run_endLoop (P := P) hl (by rw [hrec]; simp)
        rw [hrec] at r
        exact ⟨some c, _, r, hkD ▸ hstop kD c pre _ (by omega) hSp ((hIx c).putObj _ hi (by omega) hl rfl) ((World.putObj_heap_other (by omega)).trans hk)⟩
end Go.Proofs.YtjolkhiggcmoiaaGreatDoor
/-! ## QBSeq: What a range over a function keeps; the sequence of blocks. -/
namespace Go.Proofs.YtjolkhiggcmoiaaGreatDoor
open Go.RowKit Go.Shelf
set_option linter.unusedVariables false
set_option linter.unusedSimpArgs false
theorem far_grown {w w' : World} (h : Far (fun _ => False) w w') : w.grownBy w' none := ⟨h.os, h.tape, h.output, h.size, fun k hk _ => h.block k hk id⟩
theorem KeepK.far {K : Nat → Prop} {A B C : World} (h : KeepK K A B) (hK : ∀ k, K k → k < B.heap.size) (hf : Far (fun _ => False) B C) : KeepK K A C := fun k hk => (hf.block k (hK k hk) id).trans (h k hk)
theorem keepK_lt {K : Nat → Prop} {A B : World} (h : KeepK K A B) {k : Nat} (hk : K k) (hl : k < A.heap.size) : k < B.heap.size := by
  have := h k hk
  rw [Array.getElem?_eq_getElem hl] at this
  exact (Array.getElem?_eq_some_iff.1 this).1
theorem keepK_put {K : Nat → Prop} {B : Nat} (hK : ∀ k, K k → k < B) (W : World) (l : Nat) (o o' : Obj) (hl : B ≤ l) : KeepK K W (W.putObj l o') := fun k hk => World.putObj_heap_other fun e => by have := hK k hk; omega
theorem round_bool {e : Ending} {A B : Prop} (h : (e = .returned (.bool true) ∧ A) ∨ (e = .returned (.bool false) ∧ B)) : ∃ bv : Bool, e = .returned (.bool bv) ∧ ((bv = true ∧ A) ∨ (bv = false ∧ B)) :=
  h.elim (fun h => ⟨true, h.1, .inl ⟨rfl, h.2⟩⟩) (fun h => ⟨false, h.1, .inr ⟨rfl, h.2⟩⟩)
theorem putObj_size (W : World) (l : Nat) (o : Obj) : W.heap.size ≤ (W.putObj l o).heap.size := (grownBy_putObj' W l o).size
def KeepS (K : Nat → Prop) (A B : World) : Prop := KeepK K A B ∧ A.heap.size ≤ B.heap.size
theorem keepS_t {K : Nat → Prop} {A B C : World} (h : KeepS K A B) (k : KeepS K B C) : KeepS K A C := ⟨keepK_t h.1 k.1, Nat.le_trans h.2 k.2⟩
theorem keepS_put {K : Nat → Prop} {B : Nat} (hK : ∀ k, K k → k < B) (W : World) (l : Nat) (o o' : Obj) (hl : B ≤ l) : KeepS K W (W.putObj l o') := ⟨keepK_put hK W l o o' hl, (putObj_size W l o')⟩
theorem keepS_refl (K : Nat → Prop) (W : World) : KeepS K W W := ⟨fun _ _ => rfl, Nat.le_refl _⟩
theorem row_other {A C : World} {F : Nat → Prop} {base e size n : Nat} {v : Value} {xs : List Value} (h : A.ownsRow base e size v n xs) (hf : Far F A C) (hF : ∀ k, F k → ∃ o : Obj, A.heap[k]? = some o ∧ o.isCells = false) : C.ownsRow base e size v n xs :=
  row_same h fun k hk hk2 => hf.block k hk2 fun hfk => by
    obtain ⟨o, ho, hc⟩ := hF k hfk
    rcases h.2 with ⟨rfl, _⟩ | ⟨g', cap, cur, rfl, _, hg, _⟩
    · cases hk
    · have : g' = k := Option.some.inj hk
      subst this
      rw [ho] at hg
      cases hg
      cases hc
theorem grown_F {A C : World} {row : Option Nat} (hg : A.grownBy C row) : Far (fun k => row = some k) A C := (Far.refl _ A).grown hg fun k _ e => e
theorem bk_other {A C : World} {F : Nat → Prop} {k : Nat} {t : TypeId} {cs : Array Value} (h : Bk A k t cs) (hf : Far F A C) (hF : ∀ k, F k → ∃ o : Obj, A.heap[k]? = some o ∧ o.isCells = false) : Bk C k t cs :=
  h.far' hf fun e => by
    obtain ⟨o, ho, hc⟩ := hF k e
    rw [show A.heap[k]? = _ from h] at ho
    cases ho
    cases hc
/-- A whole leaf out of memory, in a walk with a fence. -/
theorem wpListIn_lf {F : Fence} {n : Nat} {ops : Array Oper} {rest : List Oper} {o : Oper} {a : Act} {w : World} {Q : Exit → Act → World → Prop} (hgd : Region.wanted o (yielded ops a.tmps) = true) (x : Operand) (ho : o.op = .load 108 x)
    (g k : Nat) (hx : a.eval x = .pointer (some ⟨g, k, none⟩)) {f : Nat → Nat} (hg : w.rangeAt g k (Rw f).toList)
    (h : wpListIn F n Tryz.prog ops Q rest (a.put o.dst (.agg (Rw f))) w) : wpListIn F n Tryz.prog ops Q (o :: rest) a w :=
  BigFrame.wpListIn_want hgd fun _ hK => by
    unfold Oper.wpIn
    refine ⟨?_, ?_⟩
    · simp [Oper.about, ho]
    · rw [Oper.semAt_plain F _ _ (by rw [ho]; intro c hc'; cases hc')]
      unfold execOp
      simp only [ho, hx, Instr.loadAt, Instr.sureAddr, Sem.run_bind, Sem.run_pure, Result.andThen_ok, rw_range hg]
      rw [Oper.uponIn_value]
      exact hK _ _ h
/-- What a round is handed: a place, and the block. -/
def bencs (M : Nat → Nat → Bool) (p : Nat × Nat) : Array Value := #[.agg #[.int .i64 (p.1 : Nat), .int .i64 (p.2 : Nat)], .agg (Rw (blk (sub M p.1 p.2)))]
def BOk (L : List (Nat × Nat)) (pre : List (Nat × Nat)) (p : Nat × Nat) (W : World) : Prop := pre ++ [p] = L.take (pre.length + 1) ∧ pre.length < L.length
set_option maxRecDepth 100000 in
set_option maxHeartbeats 4000000 in
theorem blocks_seq (n : Nat) (hn : 2 ≤ n) (h b : Nat) (v : Value) (M : Nat → Nat → Bool) (L : List (Nat × Nat)) (hL : L.length ≤ 65536) (w0 : World) (hX : Bk w0 h 124 #[v]) (hO : w0.ownsRow b 131 66 v L.length (srows M L).flatten) :
    SeqOk n Tryz.prog 141 #[.pointer (some ⟨h, 0, none⟩)] (bencs M) (BOk L) (KeepS fun k => k = h ∨ v.ownBlock = some k) (fun xs => xs = L) (fun _ => True) w0 := fun l J Jx W hW hJ hY h0 => by
  have hzs : ∀ w, (zeroValue 131).run Tryz.prog w = .ok (.agg (spt 0 0 fun _ => 0)) w := (zero_of_info spotZero).1
  have hXW : Bk W h 124 #[v] := hX.below hW hX.lt
  have hOW : W.ownsRow b 131 66 v L.length (srows M L).flatten := row_same hO fun k hk hlt => hW.block k hlt
  have HY := Lib.hid hY
  have HJ := Lib.hid hJ
  obtain ⟨ao, cap, rfl⟩ := q_form hO
  have p0 : W.cell? ⟨h, 0, none⟩ = some (.slice ao L.length cap) := hXW.cell 0
  have hXW' := Lib.hid hXW
  have hOW' := Lib.hid hOW
  clear hY hJ hX hO hXW hOW
  refine callsIn_of_wp Tryz.func141 rfl trivial (wpIn_wide.2 ?_) rfl
  simp only [Tryz.ntmps141, List.size_toArray, List.length_cons, List.length_nil, Nat.reduceAdd, Nat.reduceSub, Array.replicate_succ, Array.replicate_zero, List.push_toArray, List.append_toArray, List.nil_append, List.cons_append]
  have hn1 : 1 ≤ n := by omega
  go_wp2_with fail
  clear p0
  go_loopw [7] (fun iv wr => ∃ k : Nat, k ≤ L.length ∧ iv = .int .i64 (k : Nat) ∧ J (L.take k) wr ∧ KeepS (fun k => k = h ∨ (Value.slice ao L.length cap).ownBlock = some k) W wr) (fun iv _ => L.length - (intOf iv).toNat)
  case atStart => exact ⟨0, Nat.zero_le _, rfl, h0, fun _ _ => rfl, Nat.le_refl _⟩
  case round =>
    clear h0
    obtain ⟨k, hk, rfl, hJk, hKp⟩ := hrel
    by_cases hlt : k < L.length
    · have hp := List.getElem?_eq_getElem hlt
      obtain ⟨p, hpe⟩ : ∃ p, L[k] = p := ⟨_, rfl⟩
      rw [hpe] at hp
      have hoR := row_same hOW'.out fun q hq hl2 => hKp.1 q (.inr hq)
      have hbR := hXW'.out.keep hKp.1 (.inl rfl)
      obtain ⟨g, c2, hsv, _⟩ := hoR.form (by omega)
      cases hsv
      have hr : wr.rangeAt g (k * 66) (spt p.1 p.2 (blk (sub M p.1 p.2))).toList := own_range hoR (srows_even M _) (srows_get hp)
      have dk : (k : Int) < (L.length : Int) := by omega
      have hk' : k < 65536 := by omega
      have hJk' := Lib.hid hJk
      have hKp' := Lib.hid hKp
      have hgl := Lib.hid (hoR.lt)
      have hhl := Lib.hid hbR.lt
      obtain ⟨m, hm⟩ : ∃ m, L.length = m := ⟨_, rfl⟩
      have hm' := Lib.hid hm
      rw [hm] at dk hlt hk ⊢
      clear hoR hbR hJk hKp hpe hm
      go_upto_region 3 with (first | (refine wpList_sp rfl _ rfl _ _ rfl hr ?_) | (refine wpList_spst rfl _ _ rfl _ rfl rfl (Bk.new rfl) (spt_size _ _ _) ?_))
      rw [World.setRow_alloc_new]
      obtain ⟨wa, hwa⟩ : ∃ wa, wa = wr.alloc (.cells (spt p.1 p.2 (blk (sub M p.1 p.2))) 131) := ⟨_, rfl⟩
      have hfa : Far (fun _ => False) wr wa := hwa ▸ (Far.refl _ wr).alloc _
      have hb3 : SpB wa wr.heap.size (spt p.1 p.2 (blk (sub M p.1 p.2))) := hwa ▸ Bk.new rfl
      obtain ⟨x0, x1⟩ := SpB.at hb3
      have x2 := SpB.leaf hb3
      rw [← hwa]
      have hok : BOk L (L.take k) p wa := ⟨by rw [List.length_take, Nat.min_eq_left (by have := hm'.out; omega), List.take_add_one, hp]; rfl, by rw [List.length_take]; have := hm'.out; omega⟩
      obtain ⟨fn, tmps, assign, body, hy, hR⟩ := HY.out (L.take k) p wa (HJ.out _ _ _ none hJk'.out (far_grown hfa) (fun r e => by cases e)) hok
      have hnext : L.take k ++ [p] = L.take (k + 1) := by rw [List.take_add_one, hp]; rfl
      rw [hnext] at hR
      simp only [bencs] at hy
      have hfa' := Lib.hid hfa
      clear hwa hfa hb3 hr hok hnext
      refine (wpIn_wide (n := n)).1 ?_
      gi_wp2_with (first | (refine wpListIn_lf rfl _ rfl _ _ rfl x2 ?_) | (refine hR.mono ?_; rintro e W3 hc3; obtain ⟨bv, rfl, hc4⟩ := round_bool hc3; have hc5 := Lib.hid hc4; clear hc3 hc4))
      clear hy hR x0 x1 x2
      rcases hc5.out with ⟨rfl, hJ3, hk3⟩ | ⟨rfl, hJx3⟩
      · have hJ4 := Lib.hid hJ3
        have hK4 := Lib.hid (show KeepS (fun k => k = h ∨ (Value.slice (some ⟨g, 0, none⟩) L.length cap).ownBlock = some k) W W3 from by
          rw [hm'.out]
          refine ⟨fun q hq => ?_, Nat.le_trans hKp'.out.2 (Nat.le_trans hfa'.out.size hk3.2)⟩
          have hq' : q = h ∨ (Value.slice (some ⟨g, 0, none⟩) L.length cap).ownBlock = some q := by rw [hm'.out]; exact hq
          refine (hk3.1 q hq').trans ((hfa'.out.block q ?_ id).trans (hKp'.out.1 q hq'))
          rcases hq' with rfl | e
          · exact hhl.out
          · exact (hgl.out q e).2)
        clear hJ3 hk3
        go_wp2_with fail
        go_roundw
        case rel => exact ⟨k + 1, by omega, by simp, hJ4.out, hK4.out⟩
        case measure => simp only [intOf]; omega
      · have hJ4 := Lib.hid hJx3
        clear hJx3
        go_wp2_with fail
        refine bodyPost_ret (results_none rfl _ _ _) rfl ?_
        exact ⟨⟨_, rfl⟩, .inr ⟨_, hJ4.out⟩⟩
    · have e : k = L.length := by omega
      subst e
      rw [List.take_length] at hJk
      have hJ2 := Lib.hid hJk
      clear hJk
      go_wp2_with fail
      go_end0
      exact ⟨⟨_, rfl⟩, .inl ⟨_, rfl, hJ2.out⟩⟩
/-! Blocks: the sequence, made. -/
/-! ### The places rise -/
theorem rise_rowL (M : Nat → Nat → Bool) (i k : Nat) : (rowL M i k).Pairwise fun p q => p.1 * 16 + p.2 < q.1 * 16 + q.2 := by
  induction k with
  | zero => simp [rowL]
  | succ k ih =>
    rw [rowL_succ, List.pairwise_append]
    refine ⟨ih, by split <;> simp, fun x hx y hy => ?_⟩
    obtain ⟨h1, h2, _⟩ := mem_rowL.1 hx
    split at hy
    · simp at hy; subst hy; simp only; omega
    · cases hy
theorem rise_gridL (M : Nat → Nat → Bool) (n k : Nat) (hn : n ≤ 16) : (gridL M n k).Pairwise fun p q => p.1 * 16 + p.2 < q.1 * 16 + q.2 := by
  induction k with
  | zero => simp [gridL]
  | succ k ih =>
    rw [gridL_succ, List.pairwise_append]
    refine ⟨ih, rise_rowL M k n, fun x hx y hy => ?_⟩
    obtain ⟨h1, h2, _⟩ := mem_gridL.1 hx
    obtain ⟨h3, h4, _⟩ := mem_rowL.1 hy
    omega
theorem rise_placesL (M : Nat → Nat → Bool) {side : Nat} (h : side ≤ 1024) : (placesL M side).Pairwise fun p q => p.1 * 16 + p.2 < q.1 * 16 + q.2 := rise_gridL M _ _ (lns_le h)
/-- The last place's number, -1 where there is none. -/
def lastN (l : List (Nat × Nat)) : Int := match l.getLast? with | none => -1 | some p => (p.1 * 16 + p.2 : Nat)
theorem lastN_app (l : List (Nat × Nat)) (p : Nat × Nat) : lastN (l ++ [p]) = (p.1 * 16 + p.2 : Nat) := by simp [lastN]
theorem lastN_lt {L pre : List (Nat × Nat)} {p : Nat × Nat} (hr : L.Pairwise fun p q => p.1 * 16 + p.2 < q.1 * 16 + q.2) (h : pre ++ [p] = L.take (pre.length + 1)) : lastN pre < (p.1 * 16 + p.2 : Nat) := by
  unfold lastN
  cases hl : pre.getLast? with
  | none => simp only; omega
  | some q =>
    have hq : q ∈ pre := List.mem_of_getLast? hl
    have hs : (pre ++ [p]).Pairwise fun p q => p.1 * 16 + p.2 < q.1 * 16 + q.2 := by rw [h]; exact hr.sublist (List.take_sublist ..)
    have := (List.pairwise_append.1 hs).2.2 q hq p (by simp)
    simp only; omega
theorem foldP_none {tp : Nat × Nat → Nat × Nat} {ct : Nat × Nat → Nat → Nat} {l : List (Nat × Nat)} {i j : Nat} (h : ∀ p ∈ l, tp p ≠ (i, j)) (r c : Nat) (hr : r < 64) (hc : c < 64) : sub (foldP tp ct l) i j r c = false := by
  cases hb : sub (foldP tp ct l) i j r c
  · rfl
  · obtain ⟨p, hp, h1, h2, _⟩ := foldP_iff.1 hb
    refine absurd (Prod.ext ?_ ?_) (h p hp)
    · simp only; omega
    · simp only; omega
/-- A fresh place's block is news; the second time it is none. -/
theorem new_once {N : Nat → Nat → Bool} {i j : Nat} {S : Nat → Nat → Bool} (hn : ∃ r c, r < 64 ∧ c < 64 ∧ S r c = true) (h0 : ∀ r c, r < 64 → c < 64 → sub N i j r c = false) : newB N i j (blk S) = true := by
  obtain ⟨r, c, hr, hc, h⟩ := hn
  exact newB_iff.2 ⟨r, c, hr, hc, by rw [bt_blk _ _ _ hc]; exact h, h0 r c hr hc⟩
theorem new_twice {N : Nat → Nat → Bool} {i j : Nat} {f : Nat → Nat} : newB (orM N i j f) i j f = false := by
  cases hb : newB (orM N i j f) i j f
  · rfl
  · obtain ⟨r, c, hr, hc, h1, h2⟩ := newB_iff.1 hb
    rw [sub_or _ _ _ _ hr hc, h1] at h2
    simp at h2
theorem Hold.range {w : World} {g : Nat} {f : Nat → Nat} (h : Hold w g (Rw f)) : w.rangeAt g 0 (Rw f).toList := fun k v hv => by
  rw [Nat.zero_add]
  exact h.cell (by simpa using hv)
/-- A whole block into its variable, in a walk with a fence. -/
theorem wpListIn_st {F : Fence} {n : Nat} {ops : Array Oper} {rest : List Oper} {o : Oper} {a : Act} {w : World} {Q : Exit → Act → World → Prop} (hgd : Region.wanted o (yielded ops a.tmps) = true) (x y : Operand) (ho : o.op = .store 108 x y)
    (g : Nat) (hx : a.eval x = .pointer (some ⟨g, 0, none⟩)) {f : Nat → Nat} (f' : Nat → Nat) (hy : a.eval y = .agg (Rw f')) (hg : Hold w g (Rw f))
    (h : wpListIn F n Tryz.prog ops Q rest (a.put o.dst undef) (w.setRow g (Rw f'))) : wpListIn F n Tryz.prog ops Q (o :: rest) a w :=
  BigFrame.wpListIn_want hgd fun _ hK => by
    have hs := run_storeVar_row (P := Tryz.prog) w g 108 108 (Rw f) (Rw f') hg (by rw [blockSize, Rw_size]) (by rw [Rw_size, Rw_size]) (Rw_one f')
    unfold Oper.wpIn
    refine ⟨?_, ?_⟩
    · simp [Oper.about, ho]
    · rw [Oper.semAt_plain F _ _ (by rw [ho]; intro c hc'; cases hc')]
      unfold execOp
      simp only [ho, hx, hy, Instr.storeAt, Instr.sureAddr, Sem.run_bind, Sem.run_pure, Result.andThen_ok, hs]
      exact hK _ _ h
section
variable {w w' : World} {B side : Nat} {F : Nat → Prop} {M : Nat → Nat → Bool}
section
set_option maxHeartbeats 4000000
set_option maxRecDepth 100000
theorem qblocks_any (h : Mx w B F side M) :
    Calls Tryz.prog 133 #[.pointer (some ⟨B, 0, none⟩)] w fun e w' => ∃ hb v, e = .returned (.func (.func 141) #[] #[.pointer (some ⟨hb, 0, none⟩)]) ∧ Bk w' hb 124 #[v] ∧
      w'.ownsRow w.heap.size 131 66 v (placesL M side).length (srows M (placesL M side)).flatten ∧ w.heap.size ≤ hb ∧ Far (fun _ => False) w w' := by
  have SP := qspots_any h
  clear h
  go_enter Tryz.func133, Tryz.ntmps133
  go_wp2_with fail
  refine SP.mono ?_
  rintro e w1 ⟨v, rfl, hO, hf⟩
  have hO' := Lib.hid hO
  have hf' := Lib.hid hf
  clear SP hO hf
  obtain ⟨ao, cap, rfl⟩ := q_form hO'.out
  go_wp2_with fail
  go_ret
  have hz := hf'.out.size
  refine ⟨_, _, rfl, ?bk, row_same hO'.out ?ro, ?lo, ?fa⟩
  case bk => exact Bk.new rfl
  case ro => exact fun k _ hl => heap_alloc_old _ _ hl
  case lo => exact hz
  case fa => exact hf'.out.alloc _
end
end
end Go.Proofs.YtjolkhiggcmoiaaGreatDoor
/-! ## QBCells: The cells of a block, rising; the sequence that hands them out. -/
namespace Go.Proofs.YtjolkhiggcmoiaaGreatDoor
open Go.RowKit Go.Shelf
set_option linter.unusedVariables false
set_option linter.unusedSimpArgs false
/-- The columns of a row, rising. -/
def rowW (x : Nat) : List Nat := (List.range 64).filter fun c => x.testBit c
/-- The cells of the first k rows, rising. -/
def cellsUp (f : Nat → Nat) : Nat → List (Nat × Nat)
  | 0 => []
  | k + 1 => cellsUp f k ++ (rowW (f k)).map fun c => (k, c)
theorem filter_first (p q : Nat → Bool) (c : Nat) (hp : p c = true) (hlow : ∀ i, i < c → p i = false) (hq : ∀ i, q i = (p i && !decide (i = c))) : ∀ n, c < n → (List.range n).filter p = c :: (List.range n).filter q
  | 0, h => absurd h (Nat.not_lt_zero _)
  | n + 1, h => by
    rw [List.range_succ, List.filter_append, List.filter_append]
    by_cases e : c = n
    · subst e
      have h1 : (List.range c).filter p = [] := List.filter_eq_nil_iff.2 fun i hi => by rw [hlow i (List.mem_range.1 hi)]; simp
      have h2 : (List.range c).filter q = [] := List.filter_eq_nil_iff.2 fun i hi => by rw [hq, hlow i (List.mem_range.1 hi)]; simp
      rw [h1, h2]
      simp [hp, hq]
    · rw [filter_first p q c hp hlow hq n (by omega), List.cons_append]
      have : q n = p n := by rw [hq, decide_eq_false (by omega)]; simp
      simp [List.filter_cons, this]
theorem low_none (x : Nat) (hx : x < 18446744073709551616) (hx0 : x ≠ 0) : ∀ i, i < Lib.ctz 64 x → x.testBit i = false := by
  have e : Lib.ctz 64 x = Lib.ctzFrom 64 x := by simp [Lib.ctz, hx0]
  rw [e]
  obtain ⟨m, hm, hk⟩ := Lib.ctzFrom_spec 64 x (by omega) hx
  generalize Lib.ctzFrom 64 x = k at *
  have h1 : x = 2 ^ k * (2 * m + 1) := by rw [hm]
  intro i hi
  rw [h1, Nat.testBit_two_pow_mul]
  simp; omega
theorem rowW_low (x : Nat) (hx : x < 18446744073709551616) (hx0 : x ≠ 0) : rowW x = Lib.ctz 64 x :: rowW (x &&& (x - 1)) := by
  obtain ⟨hk, hb, hi⟩ := low_facts x hx hx0
  exact filter_first _ _ _ hb (low_none x hx hx0) hi 64 hk
theorem rowW_zero : rowW 0 = [] := by unfold rowW; simp
theorem rowW_lt {x c : Nat} (h : c ∈ rowW x) : c < 64 := by unfold rowW at h; rw [List.mem_filter] at h; exact List.mem_range.1 h.1
theorem rowW_le (x : Nat) : (rowW x).length ≤ 64 := by
  have := List.length_filter_le (fun c => x.testBit c) (List.range 64)
  simpa [rowW] using this
theorem cellsUp_le (f : Nat → Nat) : ∀ k, (cellsUp f k).length ≤ 64 * k
  | 0 => Nat.le_refl _
  | k + 1 => by have := cellsUp_le f k; have := rowW_le (f k); simp [cellsUp]; omega
theorem cellsUp_prefix (f : Nat → Nat) {k n : Nat} (h : k ≤ n) : cellsUp f k <+: cellsUp f n := by
  induction n with
  | zero => rw [Nat.le_zero.1 h]; exact List.prefix_refl _
  | succ n ih =>
    by_cases e : k = n + 1
    · subst e; exact List.prefix_refl _
    · exact (ih (by omega)).trans (List.prefix_append _ _)

theorem mem_rowW {x c : Nat} : c ∈ rowW x ↔ c < 64 ∧ x.testBit c = true := by unfold rowW; simp
theorem mem_cellsUp {f : Nat → Nat} {r c : Nat} : ∀ {k : Nat}, (r, c) ∈ cellsUp f k ↔ r < k ∧ c < 64 ∧ bt f r c = true
  | 0 => by simp [cellsUp]
  | k + 1 => by
    simp only [cellsUp, List.mem_append, mem_cellsUp (k := k), List.mem_map, mem_rowW, Prod.mk.injEq, bt]
    constructor
    · rintro (⟨h1, h2, h3⟩ | ⟨c', ⟨h1, h2⟩, rfl, rfl⟩)
      · exact ⟨by omega, h2, h3⟩
      · exact ⟨by omega, h1, h2⟩
    · rintro ⟨h1, h2, h3⟩
      by_cases e : r = k
      · subst e; exact .inr ⟨c, ⟨h2, h3⟩, rfl, rfl⟩
      · exact .inl ⟨by omega, h2, h3⟩
attribute [local go_sem] Oper.semAt_some
/-- A cell, as the loop's variable gets it. -/
def encC (x : Nat × Nat) : Array Value := #[.agg #[.int .i64 (x.1 : Int), .int .i64 (x.2 : Int)]]
abbrev TabK : Nat → Prop := fun k => k = 0
theorem Tab.keep {w w' : World} (h : Tab w) (k : KeepS TabK w w') : Tab w' := fun j hj => (cell_eq (p := ⟨0, j, none⟩) (k.1 _ rfl)).trans (h j hj)
theorem Tab.still {w w' : World} (h : Tab w) (hf : Far (fun _ => False) w w') : Tab w' := h.stays (hf.below (Nat.le_refl _) fun _ _ h => h)
theorem Tab.far {w w' : World} {F : Nat → Prop} (h : Tab w) (hf : Far F w w') (hF : ¬ F 0) : Tab w' := fun j hj =>
  (cell_eq (p := ⟨0, j, none⟩) (hf.block _ (block_lt_of_cell (h j hj)) hF)).trans (h j hj)
/-- A whole block out of its variable, within a fence and outside a round. -/
theorem wpListIn_ld {n : Nat} {ops : Array Oper} {rest : List Oper} {o : Oper} {a : Act} {w : World} {Q : Exit → Act → World → Prop} (hgd : Region.wanted o (yielded ops a.tmps) = true) (x : Operand) (ho : o.op = .load 108 x)
    (g : Nat) (hx : a.eval x = .pointer (some ⟨g, 0, none⟩)) {f : Nat → Nat} (hg : Hold w g (Rw f))
    (h : wpListIn Fence.wide n Tryz.prog ops Q rest (a.put o.dst (.agg (Rw f))) w) : wpListIn Fence.wide n Tryz.prog ops Q (o :: rest) a w := by
  refine wpListIn_step fun K hK => ?_
  rw [if_pos hgd]
  have hl := run_loadVar_row (P := Tryz.prog) w g 108 108 (Rw f) (0, 0) _ hg blockType rfl (by rw [blockSize, Rw_size])
  refine ⟨fun _ _ => trivial, ?_⟩
  rw [Fence.wide_round, Oper.semAt_none]
  unfold execOp
  simp only [ho, hx, Instr.loadAt, Instr.sureAddr, Sem.run_bind, Sem.run_pure, Result.andThen_ok, hl]
  exact hK _ _ h
theorem tz_in (n : Nat) (x : Nat) (w : World) (hx : x < 18446744073709551616) (hx0 : x ≠ 0) (hT : Tab w) :
    CallsIn Fence.wide n Tryz.prog 88 #[.int .u64 x] w fun e w' => e = .returned (.int .i64 (Lib.ctz 64 x)) ∧ w' = w :=
  callsIn_wide.2 ((tz_any x w hx hx0 hT).mono fun _ _ ⟨he, hw⟩ => ⟨he, hw.symm⟩)
set_option maxRecDepth 100000 in
set_option maxHeartbeats 4000000 in
theorem bcells_seq (n : Nat) (hn : 1 ≤ n) (f : Nat → Nat) (hf : Wf f) (bx : Nat) (w0 : World) (hbx : Hold w0 bx (Rw f)) (hT : Tab w0) :
    SeqOk n Tryz.prog 90 #[.pointer (some ⟨bx, 0, none⟩)] encC (fun pre x _ => (pre ++ [x]) <+: cellsUp f 64) (KeepS TabK) (fun xs => xs = cellsUp f 64) (fun _ => True) w0 := fun l J Jx W hW hJ hY h0 => by
  have d := hbx.below hW hbx.lt
  have hTW := hT.stays hW
  have HY := Lib.hid hY
  clear hY hbx hT hJ hW
  refine callsIn_of_wp Tryz.func90 rfl trivial ?_ rfl
  simp only [Tryz.ntmps90, List.size_toArray, List.length_cons, List.length_nil, Nat.reduceAdd, Nat.reduceSub, Array.replicate_succ, Array.replicate_zero, List.push_toArray, List.append_toArray, List.nil_append, List.cons_append]
  gi_wp2_with (apply wpListIn_ld rfl _ rfl _ rfl d)
  gi_loopw [6] (fun i wr => ∃ k : Nat, k ≤ 64 ∧ i = .int .i64 k ∧ J (cellsUp f k) wr ∧ Tab wr) (fun i _ => 64 - (intOf i).toNat)
  case atStart => exact ⟨0, Nat.zero_le _, rfl, h0, hTW⟩
  case round =>
    obtain ⟨k, hk, rfl, hJk, hTk⟩ := hrel
    by_cases hk6 : k < 64
    · have hdk : decide ((k : Int) < 64) = true := by rw [decide_eq_true_eq]; omega
      have hix := fun w => run_ix f k hk6 w
      gi_wp2
      gi_loopw [4] (fun v wr => ∃ (x : Nat) (pre : List (Nat × Nat)), v = .int .u64 x ∧ x < 18446744073709551616 ∧ (pre ++ (rowW x).map fun c => (k, c)) = cellsUp f (k + 1) ∧ J pre wr ∧ Tab wr) (fun v _ => (intOf v).toNat)
      case atStart => exact ⟨f k, _, rfl, hf k hk6, rfl, hJk, hTk⟩
      case round =>
        clear hJk hTk hix
        obtain ⟨x, pre, rfl, hx, hpre, hJ, hT⟩ := hrel
        by_cases hx0 : x = 0
        · subst hx0
          rw [rowW_zero, List.map_nil, List.append_nil] at hpre
          rw [hpre] at hJ
          gi_wp2
          go_roundw
          case rel => exact ⟨k + 1, by omega, by go_num, hJ, hT⟩
          case measure => simp [intOf]; omega
        · have hne : ((x : Int) != 0) = true := by simp; omega
          have hrow := rowW_low x hx hx0
          rw [hrow, List.map_cons] at hpre
          have hpx : (pre ++ [(k, Lib.ctz 64 x)]) <+: cellsUp f 64 := by
            refine List.IsPrefix.trans ⟨(rowW (x &&& (x - 1))).map fun c => (k, c), ?_⟩ (cellsUp_prefix f (show k + 1 ≤ 64 by omega))
            rw [← hpre]; simp
          have hX : bits .and .u64 (x : Int) ((x : Int) - 1) = ((x &&& (x - 1) : Nat) : Int) := by
            rw [show ((x : Int) - 1) = ((x - 1 : Nat) : Int) by omega, bits_and64 _ _ hx (by omega)]
          have hxl : x &&& (x - 1) < x := Nat.lt_of_le_of_lt Nat.and_le_right (by omega)
          have TZ := tz_in (n - 1) x wr hx hx0 hT
          obtain ⟨fn, tmps, assign, body, hy, hR⟩ := HY.out pre (k, Lib.ctz 64 x) wr hJ hpx
          have hnext : ((pre ++ [(k, Lib.ctz 64 x)]) ++ (rowW (x &&& (x - 1))).map fun c => (k, c)) = cellsUp f (k + 1) := by rw [← hpre]; simp
          have HN := Lib.hid hnext
          have HP := Lib.hid hpx
          clear hrow hpre hpx hnext hJ
          generalize Lib.ctz 64 x = c at *
          generalize x &&& (x - 1) = x' at *
          unfold encC at hy
          dsimp only at hy
          gi_wp2_with (refine ⟨trivial, ?_⟩; refine TZ.mono ?_; rintro e w' ⟨rfl, rfl⟩)
          refine hR.mono ?_
          rintro e W3 (⟨rfl, hJ3, hk3⟩ | ⟨rfl, hJx3⟩)
          · have hT3 := hT.keep hk3
            gi_wp2
            go_roundw
            case rel => exact ⟨x', _, rfl, by omega, HN.out, hJ3, hT3⟩
            case measure => simp [intOf]; omega
          · gi_wp2
            refine bodyPost_ret (results_none rfl _ _ _) rfl ?_
            exact ⟨⟨_, rfl⟩, .inr ⟨_, trivial, hJx3⟩⟩
    · have e : k = 64 := by omega
      subst e
      gi_wp2
      go_end0
      exact ⟨⟨_, rfl⟩, .inl ⟨_, rfl, hJk⟩⟩
theorem bcells_any (f : Nat → Nat) (w : World) : Calls Tryz.prog 60 #[.agg (Rw f)] w fun e w' =>
    e = .returned (.func (.func 90) #[] #[.pointer (some ⟨w.heap.size, 0, none⟩)]) ∧ w' = w.alloc (.cells (Rw f) 108) := by
  go_enter Tryz.func60, Tryz.ntmps60
  go_wp2_with fail
  go_ret
  exact ⟨rfl, rfl⟩
attribute [irreducible] cellsUp
end Go.Proofs.YtjolkhiggcmoiaaGreatDoor
/-! ## QIn: A region without defer that draws its order, walked as outside a round, serves within a round. -/
namespace Go.Proofs.YtjolkhiggcmoiaaGreatDoor
open Go.RowKit Go.Shelf
set_option linter.unusedVariables false
set_option linter.unusedSimpArgs false
section
variable {P : Program} {l n : Nat} {ops : Array Oper}
theorem op_in {o : Oper} {a : Act} {w : World} {K K' : Act → World → Prop} {Q Q' : Exit → Act → World → Prop} (hd : ∀ c, o.op ≠ .defer c) (hK : ∀ a w, K a w → K' a w) (hQ : ∀ c a w, ¬ Q (.panic c) a w) (hL : ¬ LetsOut Q)
    (h : o.wp P a w K Q) : o.wpIn (Fence.wide.inRound l) n P a w K' Q' := by
  refine ⟨fun _ _ => trivial, ?_⟩
  rw [sem_plain _ _ _ hd]
  unfold Oper.wp at h
  generalize (execOp a.eval o).run P w = r at h
  cases r with
  | halt x w' =>
    cases x with
    | panic v => exact (hQ _ _ _ h).elim
    | _ => exact False.elim h
  | ok x w' =>
    cases x with
    | value v => exact hK _ _ h
    | skip => exact hK _ _ h
    | defer d => exact hK _ _ h
    | enter f args =>
      refine ⟨(fun h => by cases h), (CallsIn.inRound l (callsIn_wide.2 h)).mono fun e w'' he => ?_⟩
      cases e with
      | returned v => exact hK _ _ he
      | panicked c => exact (hQ _ _ _ he).elim
      | outgrown => exact (hL he).elim
    | row r args =>
      exact ⟨(fun h => by cases h), fun c cs _ => let ⟨v, w', r, s⟩ := h c cs; ⟨v, w', hK _ _ r, stepsIn_wide.2 s⟩⟩
    | _ => exact False.elim h
theorem any_in {md : Region.Mode} {Q Q' : Exit → Act → World → Prop} (hd : ∀ (i : Nat) (o : Oper), ops[i]? = some o → ∀ c, o.op ≠ .defer c) (hQ : ∀ c a w, ¬ Q (.panic c) a w) (hL : ¬ LetsOut Q) (hN : ∀ a w, Q .normal a w → Q' .normal a w) :
    ∀ (fuel : Nat) (listed : Array Bool) (a : Act) (w : World), wpAny P md ops Q fuel listed a w → wpAnyIn (Fence.wide.inRound l) n P md ops Q' fuel listed a w
  | 0, listed, a, w, h => ⟨h.1, hN _ _ h.2⟩
  | fuel + 1, listed, a, w, h => ⟨fun h0 => hN _ _ (h.1 h0), fun i hi => by
      have hi := h.2 i hi
      have ih := fun (a : Act) (w : World) => any_in (md := md) hd hQ hL hN fuel (listed.setIfInBounds i true) a w
      unfold wpOp at hi
      unfold wpOpIn
      cases ho : ops[i]? with
      | none => rw [ho] at hi; exact ih _ _ hi
      | some o =>
        rw [ho] at hi
        simp only at hi ⊢
        by_cases hwt : Region.wanted o (yielded ops a.tmps) = true
        · rw [if_pos hwt] at hi ⊢
          rcases hi with hi | hi
          · exact op_in (hd i o ho) ih hQ hL hi
          · exact (hL hi.2).elim
        · rw [if_neg hwt] at hi ⊢
          exact ⟨fun _ _ => trivial, ih _ _ hi⟩⟩
/-- The post of a region that ends. -/
def OnlyNormal (Q : Act → World → Prop) : Exit → Act → World → Prop := fun e a w => match e with | .normal => Q a w | _ => False
theorem region_in {id : Nat} {Q : Exit → Act → World → Prop} {S : World → Prop} {a : Act} {w : World} {os : List Oper} (hnd : noDefer os.toArray = true) (hm : P.follows .mixedOrders = true) (hS : S w.drew)
    (h : S w.drew → wpAnyH P .any os.toArray (OnlyNormal (Q .normal)) S os.toArray.size (Array.replicate os.toArray.size false) a w.drew) : (Code.region id os.toArray true).wpIn (Fence.wide.inRound l) n P Q a w := by
  have hd : ∀ (i : Nat) (o : Oper), os.toArray[i]? = some o → ∀ c, o.op ≠ .defer c := fun i o ho c hc => by
    have hm : o ∈ os := by have := Array.mem_of_getElem? ho; simpa using this
    have := List.all_eq_true.1 hnd o (by simpa using hm)
    rw [hc] at this
    cases this
  exact wpIn_region_any hm (any_in (Q := OnlyNormal (Q .normal)) (Q' := Q) hd (fun c a w h => h) (fun ⟨_, _, h⟩ => h) (fun a w h => h) _ _ _ _ (wpAny_of_held _ _ _ _ (h hS)))
end
end Go.Proofs.YtjolkhiggcmoiaaGreatDoor
