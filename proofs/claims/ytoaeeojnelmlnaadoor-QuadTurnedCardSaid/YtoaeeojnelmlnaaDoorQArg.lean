/-
  What every law of this seat shares: a list of cells as an argument; what the row asks behind the call.
-/
import Derived.Test.YtoaeeojnelmlnaaDoorQOf
import Derived.ProofKit
import Derived.Deep.SlicePairs
namespace Go.Proofs.YtoaeeojnelmlnaaDoor
open Go.ChangeShapes Go.WideShapes Go.ChangeAt Go.RowKit
set_option linter.unusedVariables false
set_option linter.unusedSimpArgs false

/-- v is a slice of cells: an empty one, or n cells in memory whose numbers are R k and C k. -/
def IsCells (w : World) (v : Value) (n : Nat) (R C : Nat → Int) : Prop :=
  (n = 0 ∧ ∃ a cap, v = .slice a 0 cap) ∨
  ∃ b off cap, v = .slice (some ⟨b, off, none⟩) n cap ∧ b < w.heap.size ∧
    ∀ k, k < n → w.cell? ⟨b, off + k * 2, none⟩ = some (.int .i64 (R k)) ∧ w.cell? ⟨b, off + k * 2 + 1, none⟩ = some (.int .i64 (C k))
set_option maxRecDepth 100000
theorem foldCell : Tryd.prog.cellsOf 58 = 2 := by kernel_rfl
theorem cellType : Tryd.prog.underlying 26 = some (.slice 58) := by kernel_rfl
theorem intType : Tryd.prog.underlying 3 = some (.int .i64) := by kernel_rfl
theorem boolType : Tryd.prog.underlying 4 = some .bool := by kernel_rfl
theorem cellFields : ∃ f0 f1 : Field, Tryd.prog.underlying 58 = some (.struct #[f0, f1]) ∧ f0.offset = 0 ∧ f1.offset = 1 ∧ f0.type = 3 ∧ f1.type = 3 := by
  exact ⟨_, _, Tryd.underlying58, rfl, rfl, rfl, rfl⟩
theorem intCells : Tryd.prog.cellsOf 3 = 1 := by kernel_rfl
theorem Tryd.laidOut : laidOutB Tryd.prog = true := by kernel_rfl
theorem Tryd.own : ownKnob Tryd.prog.godebug = none := by kernel_rfl

theorem add_none (b off n : Nat) : (⟨b, off, none⟩ : Addr).add n = ⟨b, off + n, none⟩ := by
  unfold Addr.add; split <;> simp_all

/-- A list of cells that came in. -/
theorem open_cells {H : Type} {enc : TypeId × Value → H} {w : World} {base : Nat} {r : Reach} {b0 : Nat} {v : Value} {d : DataW H} {ps : List MemPlace} (hv : Value.okWide Tryd.prog w r b0 26 v)
    (h : DataW.Trod enc Tryd.prog w base (fun _ => true) true 26 v d ps) : ∃ n R C, n ≤ 9223372036854775807 ∧ IsCells w v n R C := by
  obtain ⟨a0, len0, cap0, rfl⟩ := okWide_slice cellType hv
  obtain ⟨fuel, hf⟩ := h
  obtain ⟨f0, f1, hs, o0, o1, t0, t1⟩ := cellFields
  rcases Go.Deep.open_slice_pairs cellType hs foldCell o0 o1 (by rw [t0]; exact intCells) (by rw [t1]; exact intCells) hf with ⟨hc, _⟩ | ⟨a, len, cap, m, n, V0, V1, D0, D1, P0, P1, hc, hb, hl, hm, hmm, _, hi⟩
  · simp only [Value.cells, List.cons.injEq, Value.slice.injEq, and_true] at hc
    obtain ⟨_, rfl, _⟩ := hc
    exact ⟨0, fun _ => 0, fun _ => 0, by omega, .inl ⟨rfl, _, _, rfl⟩⟩
  · simp only [Value.cells, List.cons.injEq, Value.slice.injEq, and_true] at hc
    obtain ⟨rfl, hl1, hc1⟩ := hc
    subst hl1 hc1
    have hmax : cap0 ≤ 9223372036854775807 := by unfold maxLen at hm; omega
    simp only [if_true] at hmm
    subst hmm
    by_cases h0 : len0 = 0
    · subst h0
      exact ⟨0, fun _ => 0, fun _ => 0, by omega, .inl ⟨rfl, _, _, rfl⟩⟩
    · obtain ⟨b, off, spot⟩ := a
      have hsp : spot = none := by
        have := (hi 0 (by omega)).1
        cases spot with
        | none => rfl
        | some x =>
          simp only [Nat.zero_mul, Addr.add, if_true, World.cell?] at this
          split at this <;> simp at this
      subst hsp
      have hlt : b < w.heap.size := by
        have := block_lt_of_cell (hi 0 (by omega)).1
        rw [add_none] at this
        exact this
      refine ⟨len0, fun k => intOf (V0 k), fun k => intOf (V1 k), by omega, .inr ⟨b, off, _, rfl, hlt, fun k hk => ?_⟩⟩
      obtain ⟨c0, c1, g0, g1⟩ := hi k (by omega)
      rw [t0] at g0
      rw [t1] at g1
      obtain ⟨x, ex, _⟩ := DataW.trod_int intType g0
      obtain ⟨y, ey, _⟩ := DataW.trod_int intType g1
      simp only [List.cons.injEq, and_true] at ex ey
      rw [add_none] at c0 c1
      rw [ex] at c0
      rw [ey] at c1
      show _ = some (Value.int .i64 (intOf (V0 k))) ∧ _ = some (Value.int .i64 (intOf (V1 k)))
      rw [ex, ey]
      exact ⟨c0, by rw [Nat.add_assoc]; exact c1⟩

/-- Each argument reads behind the call as it read before it, where old memory is as it was. -/
theorem stay_all {H : Type} {enc : TypeId × Value → H} {P : Program} (hl : laidOutB P = true) {W W' : World} (hb : Below W.heap.size W W') (sp : Nat → Bool) :
    ∀ {ts : List TypeId} {vs : List Value} {ds : List (DataW H)} {ps : List MemPlace}, (∀ t ∈ ts, P.readableRec t = true ∧ t < P.types.size) →
      DataW.TrodAll enc P W 0 (fun _ => true) true ts vs ds ps → (∀ x ∈ ps, x.block < W.heap.size) → (∀ x ∈ ps, sp x.block = true) → DataW.TrodAll enc P W' 0 sp true ts vs ds ps
  | [], vs, ds, ps, _, h, _, _ => by
    obtain ⟨rfl, rfl, rfl⟩ := trodAll_nil h
    exact trodAll_mk0
  | t :: ts, vs, ds, ps, ht, h, hlt, hsp => by
    obtain ⟨v, vs', d, ds', p, q, rfl, rfl, rfl, h1, h2⟩ := trodAll_cons h
    have ht1 := ht t (by simp)
    have r1 := Go.WideElems.Trod_stays hl ht1.1 ht1.2 h1 (fun x hx => hb.same (hlt x (by simp [hx]))) (fun x hx => hsp x (by simp [hx]))
    have r2 := stay_all hl hb sp (fun t h => ht t (by simp [h])) h2 (fun x hx => hlt x (by simp [hx])) (fun x hx => hsp x (by simp [hx]))
    exact ⟨p, q, r1, r2, rfl⟩

/-- What the row of a law asks behind the call: it answered true, and old memory is as it was. -/
theorem law_post {H : Type} {enc : TypeId × Value → H} {f : Func} {s : ChangeSpec} {apart fresh handsOn again : Bool} {W W' : World} {args : Array Value} {ds gs : List (DataW H)} {before : List MemPlace}
    (hW : DataW.Whole enc Tryd.prog f.params.toList s.vars apart W args.toList ds gs before) (hvars : s.vars = [])
    (hts : ∀ t ∈ f.params.toList, Tryd.prog.readableRec t = true ∧ t < Tryd.prog.types.size) (hres : f.resultTypes = #[4])
    (hfn : s.fn H ds = { results := [.lit (.bool true)], args := ds }) (hb : Below W.heap.size W W') : s.post enc Tryd.prog f apart fresh handsOn again W args (.bool true) W' := by
  have hlt : ∀ p ∈ before, p.block < W.heap.size := fun p hp => hW.lt p hp
  obtain ⟨p, q, hA, hV, hpq, hz, hn⟩ := hW
  rw [hvars] at hV
  obtain ⟨rfl, rfl⟩ := trodVars_none hV
  simp only [List.append_nil] at hpq
  subst hpq
  have hfn' : s.fn H (ds ++ []) = { results := [.lit (.bool true)], args := ds } := by rw [List.append_nil]; exact hfn
  have hr : ∀ (b : Nat) (sp : Nat → Bool) (hd : Bool), DataW.TrodAll enc Tryd.prog W' b sp hd f.resultTypes.toList ((Value.bool true).resultList f.resultTypes.size) [.lit (.bool true)] [] := fun b sp hd => by
    rw [hres]; exact trodAll_mk1 (shut_bool boolType _)
  have ha : ∀ sp : Nat → Bool, (∀ x ∈ before, sp x.block = true) → DataW.TrodAll enc Tryd.prog W' 0 sp true f.params.toList args.toList ds before := fun sp hsp =>
    stay_all Tryd.laidOut hb sp hts hA hlt hsp
  have hv : ∀ sp : Nat → Bool, DataW.TrodVars enc Tryd.prog W' sp s.vars [] [] := fun sp => by rw [hvars]; rfl
  have hold : ∀ p ∈ before, (fun b => decide (b < W.heap.size)) p.block = true := fun p hp => by simpa using hlt p hp
  refine ⟨ds, [], before, [], before, [], ⟨before, [], hA, by rw [hvars]; rfl, by simp, hz, hn⟩, ?_, ?_, ?_, World.keptBut_mono (fun x hx => ⟨hx, .inr (by simpa using hx)⟩) (hb.frame (· ∈ before)), fun _ => ?_⟩
  · rw [hfn']; exact hr _ _ _
  · rw [hfn']; exact ha _ hold
  · rw [hfn']; exact hv _
  · refine ⟨ok_one hres rfl (okWide_bool_mk boolType _), _, _, ([] ++ before) ++ [], ⟨[] ++ before, [], trodAll_append (ha _ (fun _ _ => rfl)) (hr _ _ _), hv _, rfl, ?_, ?_⟩, ?_⟩
    · intro b off hp
      have hin : MemPlace.cell b off ∈ before := by simpa using hp
      rw [hb.frozen (hlt _ hin)]
      exact hz b off hin
    · intro hap
      simpa using hn hap
    · intro x hx _
      simpa using hx
/-- The same, as the laws take it. -/
theorem open_cls {H : Type} {enc : TypeId × Value → H} {w : World} {base : Nat} {r : Reach} {b0 : Nat} {v : Value} {d : DataW H} {ps : List MemPlace} (hv : Value.okWide Tryd.prog w r b0 26 v)
    (h : DataW.Trod enc Tryd.prog w base (fun _ => true) true 26 v d ps) : ∃ ao n cap R C, v = .slice ao n cap ∧ n ≤ 9223372036854775807 ∧ Cls w ao n R C := by
  obtain ⟨n, R, C, hn, hc⟩ := open_cells hv h
  rcases hc with ⟨rfl, a, cap, rfl⟩ | ⟨b, off, cap, rfl, hb, hc⟩
  · exact ⟨a, 0, cap, R, C, rfl, by omega, fun h => absurd h (Nat.lt_irrefl _)⟩
  · exact ⟨_, n, cap, R, C, rfl, hn, fun _ => ⟨b, off, rfl, hb, hc⟩⟩
theorem far_below {w w' : World} (h : Far (fun _ => False) w w') : Below w.heap.size w w' := h.below (Nat.le_refl _) fun _ _ h => h
end Go.Proofs.YtoaeeojnelmlnaaDoor
