/-
  A command as an argument, and how great it is.
-/
import Derived.Test.YtjmgheogpglpnaaDoorSame30
import Derived.Test.YtjmgheogpglpnaaDoorPost
import Derived.Deep.Slices
import Derived.Deep.Fields
import Derived.ChangeMaps5
namespace Go.Proofs.YtjmgheogpglpnaaDoor
open Go.ChangeMaps Go.ChangeShapes Go.WideShapes Go.ChangeAt Go.RowKit Go.Deep
set_option linter.unusedVariables false
set_option linter.unusedSimpArgs false
def txSum : List Tx → Nat
  | [] => 0
  | x :: l => x.length + 1 + txSum l
theorem txSum_app (a b : List Tx) : txSum (a ++ b) = txSum a + txSum b := by
  induction a with
  | nil => simp [txSum]
  | cons x l ih => simp only [List.cons_append, txSum, ih]; omega
def costC (c : CI) : Nat := txSum c.names + c.nums.length + c.text.length
theorem bulk_append {H : Type} (l r : List (DataW H)) : Rows.uptoBulkAll (l ++ r) = Rows.uptoBulkAll l + Rows.uptoBulkAll r := by
  induction l with
  | nil => simp [Rows.uptoBulkAll]
  | cons x l ih => simp only [List.cons_append, Rows.uptoBulkAll, ih]; omega
theorem strT30 : Tryd.prog.underlying 9 = some .string := by kernel_rfl
theorem numT30 : Tryd.prog.underlying 3 = some (.int .i64) := by kernel_rfl
theorem verbT30 : Tryd.prog.underlying 22 = some (.int .i64) := by kernel_rfl
theorem howT30 : Tryd.prog.underlying 23 = some (.int .i64) := by kernel_rfl
theorem strC30 : Tryd.prog.cellsOf 9 = 1 := by kernel_rfl
theorem numC30 : Tryd.prog.cellsOf 3 = 1 := by kernel_rfl
theorem verbC30 : Tryd.prog.cellsOf 22 = 1 := by kernel_rfl
theorem howC30 : Tryd.prog.cellsOf 23 = 1 := by kernel_rfl
theorem strsC30 : Tryd.prog.cellsOf 24 = 1 := by kernel_rfl
theorem numsC30 : Tryd.prog.cellsOf 25 = 1 := by kernel_rfl
theorem cmdC30 : Tryd.prog.cellsOf 27 = 5 := by kernel_rfl
theorem cmdFields : ∃ f0 f1 f2 f3 f4 : Field, Tryd.prog.underlying 27 = some (.struct #[f0, f1, f2, f3, f4]) ∧ f0.type = 22 ∧ f1.type = 23 ∧ f2.type = 24 ∧ f3.type = 25 ∧ f4.type = 9 ∧ f0.offset = 0 ∧ f1.offset = 1 ∧ f2.offset = 2 ∧ f3.offset = 3 ∧ f4.offset = 4 :=
  ⟨_, _, _, _, _, Tryd.underlying27, rfl, rfl, rfl, rfl, rfl, rfl, rfl, rfl, rfl, rfl⟩
theorem fit_wf30 {a : Int} (h : (Lit.int .i64 a).wf = true) : Fit a := by
  have := bounds_i64 h
  unfold Fit; omega
theorem add_none30 (b off j : Nat) : (⟨b, off, none⟩ : Addr).add j = ⟨b, off + j, none⟩ := by simp [Addr.add]
theorem spot_none {w : World} {b off : Nat} {spot : Option _} {v : Value} (h : w.cell? ((⟨b, off, spot⟩ : Addr).add 0) = some v) : spot = none := by
  cases spot with
  | none => rfl
  | some x =>
    simp only [Addr.add, if_true, World.cell?] at h
    split at h <;> simp at h
section
variable {H : Type} {enc : TypeId × Value → H} {w : World} {base : Nat} {held : Bool} {fuel : Nat} {x : DataW H × List MemPlace}
theorem bulk_txs (g : Nat → Tx) (D : Nat → DataW H) : ∀ n, (∀ k, k < n → (g k).length + 1 ≤ Rows.uptoBulk (D k)) → txSum ((List.range n).map g) ≤ Rows.uptoBulkAll ((List.range n).map D)
  | 0, _ => Nat.zero_le _
  | n + 1, h => by
    have ih := bulk_txs g D n (fun k hk => h k (by omega))
    have h1 := h n (by omega)
    rw [List.range_succ, List.map_append, List.map_append, bulk_append, txSum_app]
    simp only [List.map_cons, List.map_nil, Rows.uptoBulkAll, txSum]
    omega
theorem open_txs {c : Value} (h : DataW.trod enc Tryd.prog w base (fun _ => true) held fuel 24 [c] = some x) : ∃ ao cap l, c = .slice ao l.length cap ∧ Txs w ao l ∧ l.length ≤ maxLen ∧ txSum l ≤ Rows.uptoBulk x.1 := by
  rcases Go.Deep.open_slice1 Tryd.underlying24 strC30 h with ⟨hc, _⟩ | ⟨a, len, cap, m, n, V, D, Pl, hc, hb, hl, hm, hmm, hx, hi⟩
  · simp only [List.cons.injEq, and_true] at hc
    subst hc
    exact ⟨none, 0, [], rfl, fun h => absurd h (Nat.lt_irrefl _), by unfold maxLen; simp, Nat.zero_le _⟩
  · simp only [List.cons.injEq, and_true] at hc
    subst hc
    have hlm : len ≤ m := by rw [hmm]; split <;> omega
    have hi' : ∀ i, ∃ s : Tx, i < len → w.cell? (a.add i) = some (.string ⟨s.toArray⟩) ∧ s.length + 1 ≤ Rows.uptoBulk (D i) := by
      intro i
      by_cases hil : i < len
      · obtain ⟨k0, k1⟩ := hi i (by omega)
        obtain ⟨s, es, hd, _⟩ := DataW.trod_string strT30 k1
        simp at es
        refine ⟨s.data.toList, fun _ => ⟨by rw [k0, es], ?_⟩⟩
        have hd1 : D i = .lit (.string s.data.toList) := congrArg Prod.fst hd
        rw [hd1]
        simp [Rows.uptoBulk]
      · exact ⟨[], fun h => absurd h hil⟩
    obtain ⟨g, hg⟩ := Classical.axiomOfChoice hi'
    have hlen : ((List.range len).map g).length = len := by simp
    refine ⟨some a, cap, (List.range len).map g, by rw [hlen], fun h0 => ?_, by rw [hlen]; omega, ?_⟩
    · rw [hlen] at h0
      obtain ⟨b, off, spot⟩ := a
      have hsp := spot_none (hg 0 h0).1
      subst hsp
      have hlt := World.block_lt_of_cell? w _ (hg 0 h0).1
      rw [add_none30] at hlt
      refine ⟨b, off, rfl, hlt, fun k y hy => ?_⟩
      have hk : k < len := by have := (List.getElem?_eq_some_iff.1 hy).1; rwa [hlen] at this
      have e : g k = y := by rw [List.getElem?_map, List.getElem?_range hk] at hy; exact Option.some.inj hy
      have := (hg k hk).1
      rw [add_none30, e] at this
      exact this
    · have hd := congrArg Prod.fst hx
      dsimp only at hd
      rw [hd]
      have := bulk_txs g D len (fun k hk => (hg k hk).2)
      simp only [Rows.uptoBulk]
      omega
theorem bulk_cnt (D : Nat → DataW H) (n : Nat) : n ≤ Rows.uptoBulkAll ((List.range n).map D) := by
  have := bulk_len ((List.range n).map D)
  simpa using this
theorem open_nms {c : Value} (h : DataW.trod enc Tryd.prog w base (fun _ => true) held fuel 25 [c] = some x) : ∃ ao cap l, c = .slice ao l.length cap ∧ Nms w ao l ∧ l.length ≤ maxLen ∧ (∀ n ∈ l, Fit n) ∧ l.length ≤ Rows.uptoBulk x.1 := by
  rcases Go.Deep.open_slice1 Tryd.underlying25 numC30 h with ⟨hc, _⟩ | ⟨a, len, cap, m, n, V, D, Pl, hc, hb, hl, hm, hmm, hx, hi⟩
  · simp only [List.cons.injEq, and_true] at hc
    subst hc
    exact ⟨none, 0, [], rfl, fun h => absurd h (Nat.lt_irrefl _), by unfold maxLen; simp, fun _ hz => absurd hz (by simp), Nat.zero_le _⟩
  · simp only [List.cons.injEq, and_true] at hc
    subst hc
    have hlm : len ≤ m := by rw [hmm]; split <;> omega
    have hi' : ∀ i, ∃ y : Int, i < len → w.cell? (a.add i) = some (.int .i64 y) ∧ Fit y := by
      intro i
      by_cases hil : i < len
      · obtain ⟨k0, k1⟩ := hi i (by omega)
        obtain ⟨y, ey, _, wy⟩ := DataW.trod_int numT30 k1
        simp at ey
        exact ⟨y, fun _ => ⟨by rw [k0, ey], fit_wf30 wy⟩⟩
      · exact ⟨0, fun h => absurd h hil⟩
    obtain ⟨g, hg⟩ := Classical.axiomOfChoice hi'
    have hlen : ((List.range len).map g).length = len := by simp
    refine ⟨some a, cap, (List.range len).map g, by rw [hlen], fun h0 => ?_, by rw [hlen]; omega, fun y hy => ?_, ?_⟩
    · rw [hlen] at h0
      obtain ⟨b, off, spot⟩ := a
      have hsp := spot_none (hg 0 h0).1
      subst hsp
      have hlt := World.block_lt_of_cell? w _ (hg 0 h0).1
      rw [add_none30] at hlt
      refine ⟨b, off, rfl, hlt, fun k y hy => ?_⟩
      have hk : k < len := by have := (List.getElem?_eq_some_iff.1 hy).1; rwa [hlen] at this
      have e : g k = y := by rw [List.getElem?_map, List.getElem?_range hk] at hy; exact Option.some.inj hy
      have := (hg k hk).1
      rw [add_none30, e] at this
      exact this
    · obtain ⟨i, hi, rfl⟩ := List.mem_map.1 hy
      exact (hg i (List.mem_range.1 hi)).2
    · have hd := congrArg Prod.fst hx
      dsimp only at hd
      rw [hd, hlen]
      have := bulk_cnt D len
      simp only [Rows.uptoBulk]
      omega
end
/-- A nil list has no room. -/
def Slim (v : Value) : Prop := ∃ a b no nn nc mo mn mc t, v = .agg #[a, b, .slice no nn nc, .slice mo mn mc, t] ∧ (no = none → nc = 0) ∧ (mo = none → mc = 0)
theorem slim_slice {H : Type} {enc : TypeId × Value → H} {w : World} {base : Nat} {held : Bool} {fuel : Nat} {x : DataW H × List MemPlace} {t e : TypeId} {ao : Option Addr} {n cap : Nat} (ht : Tryd.prog.underlying t = some (.slice e)) (hc : Tryd.prog.cellsOf e = 1)
    (h : DataW.trod enc Tryd.prog w base (fun _ => true) held fuel t [.slice ao n cap] = some x) (h0 : ao = none) : cap = 0 := by
  rcases Go.Deep.open_slice1 ht hc h with ⟨hc, _⟩ | ⟨a, len, cap', m, n', V, D, Pl, hc, _⟩
  · simp only [List.cons.injEq, and_true, Value.slice.injEq] at hc
    exact hc.2.2
  · simp only [List.cons.injEq, and_true, Value.slice.injEq] at hc
    rw [h0] at hc
    cases hc.1
set_option maxRecDepth 100000 in
theorem open_cmd' {H : Type} {enc : TypeId × Value → H} {w : World} {base : Nat} {r : Reach} {b0 : Nat} {v : Value} {d : DataW H} {ps : List MemPlace} (hv : Value.okWide Tryd.prog w r b0 27 v)
    (h : DataW.Trod enc Tryd.prog w base (fun _ => true) true 27 v d ps) : ∃ c, CmI w v c ∧ Fit c.v ∧ Fit c.how ∧ (∀ n ∈ c.nums, Fit n) ∧ costC c ≤ Rows.uptoBulk d ∧ Slim v := by
  obtain ⟨f0, f1, f2, f3, f4, hs, t0, t1, t2, t3, t4, o0, o1, o2, o3, o4⟩ := cmdFields
  obtain ⟨cs, rfl, hsz⟩ := okWide_struct hs hv
  rw [cmdC30] at hsz
  obtain ⟨fuel, hf⟩ := h
  match cs, hsz with
  | ⟨[c0, c1, c2, c3, c4]⟩, _ =>
    obtain ⟨xs, n', hn', hD, _, hxl, hfld⟩ := DataW.trod_struct hs hf
    have g0 := hfld 0 f0 rfl
    have g1 := hfld 1 f1 rfl
    have g2 := hfld 2 f2 rfl
    have g3 := hfld 3 f3 rfl
    have g4 := hfld 4 f4 rfl
    rw [o0, t0, verbC30] at g0
    rw [o1, t1, howC30] at g1
    rw [o2, t2, strsC30] at g2
    rw [o3, t3, numsC30] at g3
    rw [o4, t4, strC30] at g4
    match xs, hxl with
    | [x0, x1, x2, x3, x4], _ =>
      obtain ⟨a, ea, _, wa⟩ := DataW.trod_int verbT30 g0
      obtain ⟨b, eb, _, wb⟩ := DataW.trod_int howT30 g1
      obtain ⟨no, nc, names, e2, hN, n1, n2⟩ := open_txs (c := c2) (by simpa [Value.cells] using g2)
      obtain ⟨mo, mc, ns, e3, hM, n3, n4, n5⟩ := open_nms (c := c3) (by simpa [Value.cells] using g3)
      obtain ⟨s, es, hd4, _⟩ := DataW.trod_string strT30 g4
      simp [Value.cells] at ea eb es
      subst ea eb es e2 e3
      have s2 := slim_slice Tryd.underlying24 strC30 (ao := no) (n := names.length) (cap := nc) (by simpa [Value.cells] using g2)
      have s3 := slim_slice Tryd.underlying25 numC30 (ao := mo) (n := ns.length) (cap := mc) (by simpa [Value.cells] using g3)
      refine ⟨⟨a, b, names, ns, s.data.toList⟩, ⟨no, nc, mo, mc, ?_, hN, hM, n1, n3⟩, fit_wf30 wa, fit_wf30 wb, n4, ?_, ⟨_, _, _, _, _, _, _, _, _, rfl, s2, s3⟩⟩
      · unfold cmdV
        have := st_of s
        unfold st at this
        rw [this]
      · have hD1 : d = .agg [x0.1, x1.1, x2.1, x3.1, x4.1] := by have := congrArg Prod.fst hD; simpa using this
        have e4 : x4.1 = .lit (.string s.data.toList) := by rw [hd4]
        rw [hD1, e4]
        unfold costC
        have h1 := bulk_pos x0.1
        have h2 := bulk_pos x1.1
        simp only [Rows.uptoBulk, Rows.uptoBulkAll] at n2 n5 ⊢
        omega
set_option maxRecDepth 100000 in
theorem open_cmd {H : Type} {enc : TypeId × Value → H} {w : World} {base : Nat} {r : Reach} {b0 : Nat} {v : Value} {d : DataW H} {ps : List MemPlace} (hv : Value.okWide Tryd.prog w r b0 27 v)
    (h : DataW.Trod enc Tryd.prog w base (fun _ => true) true 27 v d ps) : ∃ c, CmI w v c := by
  obtain ⟨c, hc, _⟩ := open_cmd' hv h
  exact ⟨c, hc⟩
end Go.Proofs.YtjmgheogpglpnaaDoor
