/-
  What stands while a piece goes on.
-/
import Derived.Test.YteojbnkjphghkaaDoorLR15
namespace Go.Proofs.YteojbnkjphghkaaDoor
open Go.RowKit Go.Shelf
set_option linter.unusedVariables false
set_option linter.unusedSimpArgs false
structure GS (w W : World) (kB eB gB B S n b0 b1 gl gr : Nat) (pv wv lv fv rv0 : Value) (V : Bool → Nat → Value) (L : Bool → Nat → List (Int × Int)) (x : Pc) (D : Pc → Prop) (K0 : List Pc) (rv : Value) (E G : Ends) (K : List Pc) : Prop where
  ch : Ch W kB eB gB B S n pv wv lv fv rv E G K
  lr : LR W gl gr S V L
  tab : Tab W
  x0 : Bk W b0 68 #[.pointer (some ⟨kB, 0, none⟩)]
  x1 : Bk W b1 59 #[.int .i64 x.1, .int .i64 (x.2.1 : Int), .int .i64 (x.2.2 : Int)]
  own : ∀ k, rv.ownBlock = some k → rv0.ownBlock = some k ∨ w.heap.size ≤ k
  nb : rv.ownBlock ≠ some b1
  far : Far (ChF kB eB gB rv0) w W
  pre : K0 <+: K
  d : ∀ q ∈ K, D q
  low : 0 ≠ kB ∧ 0 ≠ eB ∧ 0 ≠ gB ∧ 0 < B
theorem Ch.noTab {W : World} {kB eB gB B S n : Nat} {pv wv lv fv rv : Value} {E G : Ends} {K : List Pc} (h : Ch W kB eB gB B S n pv wv lv fv rv E G K) (low : 0 ≠ kB ∧ 0 ≠ eB ∧ 0 ≠ gB ∧ 0 < B) : ¬ ChF kB eB gB rv 0 := by
  rintro (e | e | e | e)
  · exact low.1 e
  · exact low.2.1 e
  · exact low.2.2.1 e
  · have := (h.row.lt _ e).1
    omega
theorem Tab.farF {A C : World} {F : Nat → Prop} (h : Tab A) (hf : Far F A C) (hF : ¬ F 0) : Tab C := h.keep fun k hk => by
  rw [show k = _ from hk]
  exact hf.block _ h.lt hF
section
variable {w W W' : World} {kB eB gB B S n b0 b1 gl gr : Nat} {pv wv lv fv rv0 : Value} {V : Bool → Nat → Value} {L : Bool → Nat → List (Int × Int)} {x : Pc} {D : Pc → Prop} {K0 : List Pc} {rv : Value} {E G : Ends} {K : List Pc}
theorem GS.move (h : GS w W kB eB gB B S n b0 b1 gl gr pv wv lv fv rv0 V L x D K0 rv E G K) (hf : Far (fun _ => False) W W') : GS w W' kB eB gB B S n b0 b1 gl gr pv wv lv fv rv0 V L x D K0 rv E G K :=
  ⟨h.ch.move hf, h.lr.move hf, h.tab.farF hf id, h.x0.far' hf id, h.x1.far' hf id, h.own, h.nb, h.far.trans (hf.mono (G := ChF kB eB gB rv0) fun _ _ q => q.elim) fun _ _ q => q, h.pre, h.d, h.low⟩
theorem GS.x1ne (h : GS w W kB eB gB B S n b0 b1 gl gr pv wv lv fv rv0 V L x D K0 rv E G K) : ¬ ChF kB eB gB rv b1 := by
  rintro (e | e | e | e)
  · subst e; exact absurd (bk_type h.x1 h.ch.box) (by decide)
  · subst e; exact h.ch.e.notCells h.x1
  · subst e; exact h.ch.g.notCells h.x1
  · exact h.nb e
theorem GS.add {rv' : Value} {E' G' : Ends} {p : Pc} (h : GS w W kB eB gB B S n b0 b1 gl gr pv wv lv fv rv0 V L x D K0 rv E G K) (hC : Ch W' kB eB gB B S n pv wv lv fv rv' E' G' (addK K p)) (hf : Far (ChF kB eB gB rv) W W') (ho : ∀ k, rv'.ownBlock = some k → rv.ownBlock = some k ∨ W.heap.size ≤ k) (hd : D p) :
    GS w W' kB eB gB B S n b0 b1 gl gr pv wv lv fv rv0 V L x D K0 rv' E' G' (addK K p) := by
  refine ⟨hC, h.lr.ch h.ch hf, h.tab.farF hf (h.ch.noTab h.low), h.x0.far' hf (h.ch.other h.x0 (by decide) (by decide)), h.x1.far' hf h.x1ne, fun k hk => ?_, fun e => ?_, h.far.trans hf fun k hk q => ?_, h.pre.trans (addK_pre K p), fun q hq => ?_, h.low⟩
  · rcases ho k hk with e | e
    · exact h.own k e
    · exact .inr (Nat.le_trans h.far.size e)
  · rcases ho b1 e with e | e
    · exact h.nb e
    · have := h.x1.lt; omega
  · rcases q with e | e | e | e
    · exact .inl e
    · exact .inr (.inl e)
    · exact .inr (.inr (.inl e))
    · rcases h.own k e with e | e
      · exact .inr (.inr (.inr e))
      · omega
  · rcases addK_mem.1 hq with hq | rfl
    · exact h.d q hq
    · exact hd
theorem Tab.otherF {A C : World} {F : Nat → Prop} (h : Tab A) (hf : Far F A C) (hF : ∀ k, F k → ∃ o : Obj, A.heap[k]? = some o ∧ o.isCells = false) : Tab C := h.farF hf fun q => by
  obtain ⟨o, ho, hc⟩ := hF _ q
  have hx := h 0 (by decide)
  unfold World.cell? at hx
  rw [show A.heap[(⟨0, 0, none⟩ : Addr).block]? = some o from ho] at hx
  cases o <;> simp [Obj.isCells] at hx hc
/-- A block of another kind, made since, is written. -/
theorem GS.shut {M : Nat} {F : Nat → Prop} (h : GS w W kB eB gB B S n b0 b1 gl gr pv wv lv fv rv0 V L x D K0 rv E G K) (hf : Far F W W') (hF : ∀ k, F k → M ≤ k ∧ ∃ o : Obj, W.heap[k]? = some o ∧ o.isCells = false) (hM : eB < M ∧ gB < M ∧ w.heap.size ≤ M) : GS w W' kB eB gB B S n b0 b1 gl gr pv wv lv fv rv0 V L x D K0 rv E G K := by
  have hc : ∀ k, F k → ∃ o : Obj, W.heap[k]? = some o ∧ o.isCells = false := fun k q => (hF k q).2
  have nb : ∀ k, F k → ∀ t cs, ¬ Bk W k t cs := fun k q t cs hb => by
    obtain ⟨o, ho, hn⟩ := hc k q
    rw [show W.heap[k]? = _ from hb] at ho
    cases ho
    cases hn
  refine ⟨h.ch.go hf fun k q => ?_, h.lr.go hf fun k q t cs hb => absurd hb (nb k q t cs), h.tab.otherF hf hc, bk_other h.x0 hf hc, bk_other h.x1 hf hc, h.own, h.nb, h.far.trans hf fun k hk q => absurd (hF k q).1 (by omega), h.pre, h.d, h.low⟩
  rintro (e | e | e | e)
  · subst e; exact nb _ q _ _ h.ch.box
  · have := (hF k q).1; omega
  · have := (hF k q).1; omega
  · obtain ⟨_, cs, hb⟩ := own_type h.ch.row e
    exact nb _ q _ _ hb
end
end Go.Proofs.YteojbnkjphghkaaDoor
