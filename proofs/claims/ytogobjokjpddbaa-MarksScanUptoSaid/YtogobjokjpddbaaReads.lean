/-
  A region that draws its order and only reads, whether or not it stands in a round; a function held against nil; one turn of a loop over the marks.
-/
import Derived.Test.YtogobjokjpddbaaPiecesL
import Derived.Sort.QuietTacIn
namespace Go.Proofs.Ytogobjokjpddbaa
open Go.RowKit Go.Shelf
set_option linter.unusedVariables false
set_option linter.unusedSimpArgs false
/-! ### A drawn region that only reads, whether or not it stands in a round -/
def noDefer (ops : Array Oper) : Bool := ops.toList.all fun o => match o.op with | .defer _ => false | _ => true
theorem sem_plain (r : Option Nat) (ρ : Operand → Value) (o : Oper) (h : ∀ c, o.op ≠ .defer c) : Oper.semAt r ρ o = execOp ρ o := by
  cases r with
  | none => exact Oper.semAt_none ρ o
  | some l => exact Oper.semAt_some l ρ o h
section
variable {F : Fence} {n : Nat} {P : Program} {ops : Array Oper} {C : World → Prop}
theorem op_reads {o : Oper} {a : Act} {K : Act → Prop} {K' : Act → World → Prop} {Q' : Exit → Act → World → Prop} {w : World} (hd : ∀ c, o.op ≠ .defer c) (hC : C w) (hK : ∀ a w', C w' → K a → K' a w')
    (ha : o.askedIn F P a C) (hq : o.quietIn F n P a C K) : o.wpIn F n P a w K' Q' := by
  obtain ⟨v, hv, hn⟩ := hq
  have hv := hv w hC
  refine ⟨ha w hC, ?_⟩
  rw [sem_plain F.round a.eval o hd]
  unfold Oper.quietAtIn at hv
  cases hr : (execOp a.eval o).run P w with
  | halt x w' => rw [hr] at hv; exact hv.elim
  | ok x w' =>
    rw [hr] at hv
    cases x with
    | value u => obtain ⟨rfl, rfl⟩ := hv; exact hK _ _ hC hn
    | skip => obtain ⟨rfl, rfl⟩ := hv; exact hK _ _ hC hn
    | enter f args =>
      obtain ⟨rfl, h1, hc⟩ := hv
      exact ⟨h1, hc.mono fun e w'' ⟨he, hw⟩ => by subst he; exact hK _ _ hw hn⟩
    | defer d => exact hv.elim
    | row r args => exact hv.elim
    | round l f t c1 c2 => exact hv.elim
    | _ => exact hv.elim
theorem any_reads {Q : Act → Prop} {Q' : Exit → Act → World → Prop} {md : Region.Mode} (hd : ∀ (i : Nat) (o : Oper), ops[i]? = some o → ∀ c, o.op ≠ .defer c) (hQ : ∀ a w, C w → Q a → Q' .normal a w) :
    ∀ (fuel : Nat) (listed : Array Bool) (a : Act) (w : World), C w → wpAnyQIn F n P md ops C Q fuel listed a → wpAnyIn F n P md ops Q' fuel listed a w
  | 0, _, _, _, hw, h => ⟨h.1, hQ _ _ hw h.2⟩
  | fuel + 1, listed, a, w, hw, h => ⟨fun h0 => hQ _ _ hw (h.1 h0), fun i hi => by
      have hi := h.2 i hi
      have ih := fun (a : Act) (w' : World) (hw' : C w') => any_reads (md := md) hd hQ fuel (listed.setIfInBounds i true) a w' hw'
      unfold qOpIn at hi
      unfold wpOpIn
      cases ho : ops[i]? with
      | none => rw [ho] at hi; exact ih _ _ hw hi
      | some o =>
        rw [ho] at hi
        simp only at hi ⊢
        obtain ⟨ha, hi⟩ := hi
        by_cases hwt : Region.wanted o (yielded ops a.tmps) = true
        · rw [if_pos hwt] at hi ⊢
          exact op_reads (hd i o ho) hw ih ha hi
        · rw [if_neg hwt] at hi ⊢
          exact ⟨ha _ hw, ih _ _ hw hi⟩⟩
theorem region_reads {id : Nat} {Q : Exit → Act → World → Prop} {a : Act} {w : World} {l : List Oper} (hnd : noDefer l.toArray = true) (hm : P.follows .mixedOrders = true) (hB : Region.lexB .any l.toArray = true)
    (h : wpQuietIn F n P l.toArray (fun w' => ∃ k, w' = w.drewN k) (fun a' => ∀ w', (∃ k, w' = w.drewN k) → Q .normal a' w') l a) : (Code.region id l.toArray true).wpIn F n P Q a w := by
  simp only [Region.lexB, Bool.and_eq_true] at hB
  have hd : ∀ (i : Nat) (o : Oper), l.toArray[i]? = some o → ∀ c, o.op ≠ .defer c := fun i o ho c hc => by
    have hm : o ∈ l := by have := Array.mem_of_getElem? ho; simpa using this
    have := List.all_eq_true.1 hnd o (by simpa using hm)
    rw [hc] at this
    cases this
  refine wpIn_region_any hm (any_reads (C := fun w' => ∃ k, w' = w.drewN k) (Q := fun a' => ∀ w', (∃ k, w' = w.drewN k) → Q .normal a' w') hd (fun _ w' hw' h => h w' hw') _ _ _ _ ⟨1, rfl⟩ ?_)
  have := wpAnyQIn_lex (F := F) (n := n) (C := fun w' => ∃ k, w' = w.drewN k) (md := .any) hB.1 l 0 (Array.replicate l.toArray.size false) a (by simp) (by simpa using hB.2) h
  simpa using this
end
theorem seqType : ((Try.prog.underlying 33).map fun d => match d with | .func .. => true | _ => false) = some true := by kernel_rfl
theorem fn_nil (g : Fn) (a b : Array Value) (w : World) : (binOp .eql 33 (.func g a b) .nilFunc).run Try.prog w = .ok (.bool false) w := by
  cases hs : Try.prog.underlying 33 with
  | none => have := seqType; rw [hs] at this; cases this
  | some s =>
    have h := seqType
    rw [hs] at h
    cases s <;> simp at h
    have e : ∀ d, (Op.equalIn (d + 1) 33 (.func g a b) .nilFunc).run Try.prog w = .ok false w := fun d => by simp [Op.equalIn, run_underlying hs]
    simp [binOp, Op.equal]
    rw [show Op.maxDepth = 9999 + 1 from rfl, e]
    rfl
theorem grown_on {W0 A B : World} {bn : Nat} {row : Option Nat} (h : W0.grownBy A (some bn)) (hg : A.grownBy B row) (hr : ∀ r, row = some r → W0.heap.size ≤ r ∨ r = bn) : W0.grownBy B (some bn) :=
  ⟨hg.os.trans h.os, hg.tape.trans h.tape, hg.output.trans h.output, Nat.le_trans h.size hg.size, fun k hk hne => by
    refine (hg.block k (Nat.lt_of_lt_of_le hk h.size) fun e => ?_).trans (h.block k hk hne)
    rcases hr k e.symm with h1 | h1
    · omega
    · exact hne (by rw [h1])⟩
theorem step_end {W1 : World} {bn nq B : Nat} {t : TypeId} {old u : Value} (hN : Bk W1 bn t #[old]) :
    KeepsFrom B W1 ((W1.drewN nq).setCell ⟨bn, 0, none⟩ u) ∧ W1.grownBy ((W1.drewN nq).setCell ⟨bn, 0, none⟩ u) (some bn) ∧ Bk ((W1.drewN nq).setCell ⟨bn, 0, none⟩ u) bn t #[u] := by
  have hN' : Bk (W1.drewN nq) bn t #[old] := hN
  have hk := KeepsOthers.setCell (W1.drewN nq) ⟨bn, 0, none⟩ u
  refine ⟨⟨hk.size, fun k o _ h hc => hk.same k o h hc⟩, ?_, ?_⟩
  · exact ⟨rfl, rfl, rfl, hk.size, fun k _ hne => heap_setCell_other (W1.drewN nq) ⟨bn, 0, none⟩ k u (fun e => hne (by rw [e]))⟩
  · exact hN'.set 0 u
/-- The marks so far are a beginning of the text's. -/
def Ahead (s : ByteArray) (pre : List (Nat × Nat × Nat)) : Prop := txt s (pre.map (vm s)) <+: txt s (ml s)
theorem ahead_of {s : ByteArray} {pre : List (Nat × Nat × Nat)} (h : pre <+: ml s) : Ahead s pre := by
  obtain ⟨l, hl⟩ := h
  refine ⟨txt s l, ?_⟩
  have hv := ml_vm s
  rw [← hl, List.map_append] at hv
  have h1 : pre.map (vm s) = pre := by
    have := congrArg (List.take pre.length) hv
    rw [List.take_left' (by simp), List.take_left' rfl] at this
    exact this
  rw [h1, ← txt_append, hl]
theorem ahead_next {s : ByteArray} {pre : List (Nat × Nat × Nat)} {x y : Nat × Nat × Nat} (hp : Ahead s pre) (hy : (ml s)[pre.length]? = some y) :
    Ahead s (pre ++ [x]) ↔ ((vm s x).1, (vm s x).2.1, s.extract (vm s x).2.1 (vm s x).2.2) = (y.1, y.2.1, s.extract y.2.1 y.2.2) := by
  unfold Ahead at *
  obtain ⟨t, ht⟩ := hp
  have hy' : (txt s (ml s))[pre.length]? = some (y.1, y.2.1, s.extract y.2.1 y.2.2) := by unfold txt; rw [List.getElem?_map, hy]; rfl
  rw [← ht, List.getElem?_append_right (by simp [txt])] at hy'
  have h0 : pre.length - (txt s (pre.map (vm s))).length = 0 := by simp [txt]
  rw [h0] at hy'
  cases t with
  | nil => simp at hy'
  | cons z t =>
    have hz : z = (y.1, y.2.1, s.extract y.2.1 y.2.2) := by simpa using hy'
    rw [List.map_append, txt_append, ← ht, List.prefix_append_right_inj, hz]
    simp [txt, List.cons_prefix_cons]
def ITurn (s : ByteArray) (W0 : World) (bn : Nat) (pre : List (Nat × Nat × Nat)) (W : World) : Prop :=
  W0.grownBy W (some bn) ∧ Bk W bn 3 #[.int .i64 (pre.length : Int)] ∧ Ahead s pre
def XTurn (s : ByteArray) (W0 : World) (bn id : Nat) (br : Bool) (c : Code) (pre : List (Nat × Nat × Nat)) (W : World) : Prop :=
  (c = .ret ∧ ¬ Ahead s pre) ∨ (c = .exit id ∧ br = true ∧ W0.grownBy W (some bn) ∧ Bk W bn 3 #[.int .i64 (pre.length : Int)])
theorem turn_law {g : Operand} {p q id : Nat} {assign body : Code} {Q : Exit → Act → World → Prop} {T : Array Value} {ds : List Deferred} {W0 : World} (s : ByteArray) (hs : s.size ≤ 140737488351232) (bs bn : Nat) (br : Bool)
    (hg : (Act.mk T ds).eval g = .func (.func 27) #[] #[.pointer (some ⟨bs, 0, none⟩)])
    (hbs : Bk W0 bs 9 #[.string s]) (hne : bs ≠ bn) (hbn : Bk W0 bn 3 #[.int .i64 0])
    (hexit : ∀ a W, Q .normal a W → (Code.exit id).wp Try.prog Q a W)
    (hassign : ∀ (l : Nat) (x : Nat × Nat × Nat) (W : World) (K : Act → World → Prop), K (slots s T p q x W.heap.size) (W.alloc (.cells (mc s x) 29)) →
      assign.wpIn (Fence.wide.inRound l) (10 - 1 - 1) Try.prog (Exit.then K (fun _ _ _ => False)) { tmps := T.setIfInBounds p (.agg #[.int .i64 ((vm s x).1 : Int), .int .i64 ((vm s x).2.1 : Int), .string (s.extract (vm s x).2.1 (vm s x).2.2)]), defers := [] } W)
    (hbody : ∀ (l : Nat) (pre : List (Nat × Nat × Nat)) (x : Nat × Nat × Nat) (Bx : Nat) (W : World), W0.heap.size ≤ Bx → Bk W Bx 29 (mc s x) → ITurn s W0 bn pre W → pre.length < (ml s).length →
      body.wpIn (Fence.wide.inRound l) (10 - 1 - 1) Try.prog (ownPostG W0.heap.size (fun _ _ => True) (ITurn s W0 bn) (XTurn s W0 bn id br) (pre ++ [x]) W) (slots s T p q x Bx) W)
    (hafter : ∀ (D m : Nat) (W : World), W0.heap.size ≤ D → W0.grownBy W (some bn) → Bk W bn 3 #[.int .i64 (m : Int)] → W.heap[D]? = some (.deferred (some [])) → m = (ml s).length ∨ br = true → Q .normal { tmps := T, defers := { target := .collected D, args := #[] } :: ds } W) :
    (Code.rangeFunc g #[p] assign body).wp Try.prog Q { tmps := T, defers := ds } W0 := by
  have keep : ∀ {A B : World} {row : Option Nat}, (∀ r, row = some r → W0.heap.size ≤ r ∧ ∃ o : Obj, A.heap[r]? = some o ∧ o.isCells = false) → ∀ r, row = some r → W0.heap.size ≤ r ∨ r = bn := fun hr r e => .inl (hr r e).1
  refine all_range (p := p) (q := q) s hs bs hg hbs (ITurn s W0 bn) (XTurn s W0 bn id br) (fun pre A B row h hg hr => ⟨grown_on h.1 hg (fun r e => .inl (hr r e).1), h.2.1.kept hg hr, h.2.2⟩)
    (fun c pre A B row h hg hr => h.imp (fun h => h) (fun ⟨h1, h2, h3, h4⟩ => ⟨h1, h2, grown_on h3 hg (fun r e => .inl (hr r e).1), h4.kept hg hr⟩))
    ⟨World.grownBy.refl W0 _, hbn, List.nil_prefix⟩ (fun pre W h => ⟨h.1.size, Nat.lt_of_lt_of_le hbs.lt h.1.size⟩) (fun _ _ => True) (fun _ _ _ _ _ _ _ _ => trivial) (fun _ _ _ _ => trivial) hassign ?body ?done ?stop
  case body =>
    intro l pre x Bx W h1 h2 _ h3 h4
    have hb := hbody l pre x Bx W h1 h2 h3 h4
    refine wpIn_mono hb fun e a' W' h => ?_
    have kb : W0.grownBy W' (some bn) → KeepB bs W W' := fun hg => by
      unfold KeepB
      rw [hg.block bs hbs.lt (by simpa using hne), h3.1.block bs hbs.lt (by simpa using hne)]
    cases e with
    | normal => exact ⟨h.1, kb h.2.2.1, h.2.2⟩
    | _ => exact h
  case done =>
    intro D W hD hI hK
    exact hafter D _ W hD hI.1 hI.2.1 hK (.inl rfl)
  case stop =>
    rintro D c pre W hD hS hX hK
    rcases hX with ⟨rfl, h1⟩ | ⟨rfl, h1, h2, h3⟩
    · exact absurd (ahead_of hS) h1
    · exact hexit _ _ (hafter D _ W hD h2 h3 hK (.inr h1))
end Go.Proofs.Ytogobjokjpddbaa
