/-
  A region that draws its order within a round; two cells compared; a list of cells copied; the program's sequence made.
-/
import Derived.Test.YtbcklcikmhpclaaDoorSeq
import Derived.Test.YtbcklcikmhpclaaDoorRefCells
import Derived.Test.YtbcklcikmhpclaaDoorRefOf
import Derived.Test.YtbcklcikmhpclaaDoorQuiet
import Derived.Sort.QuietTacIn
import Derived.Laws.StructEq
import Derived.Laws.AppendOwnNone
namespace Go.Proofs.YtbcklcikmhpclaaDoor
open Go.RowKit Go.Shelf
set_option linter.unusedVariables false
set_option linter.unusedSimpArgs false
/-! ### A drawn region that only reads, whether or not it stands in a round -/
def noDefer (ops : Array Oper) : Bool := ops.toList.all fun o => match o.op with | .defer _ => false | _ => true
theorem sem_plain (r : Option Nat) (ρ : Operand → Value) (o : Oper) (h : ∀ c, o.op ≠ .defer c) : Oper.semAt r ρ o = execOp ρ o := by
  cases r with
  | none => exact Oper.semAt_none ρ o
  | some l => exact Oper.semAt_some l ρ o h
section
variable {F : Fence} {n : Nat} {P : Program} {ops : Array Oper} {C : World → Prop}
theorem op_reads {o : Oper} {a : Act} {K : Act → Prop} {K' : Act → World → Prop} {Q' : Exit → Act → World → Prop} {w : World} (hd : ∀ c, o.op ≠ .defer c) (hC : C w) (hK : ∀ a w', C w' → K a → K' a w')
    (ha : o.askedIn F P a C) (hq : o.quietIn F n P a C K) : o.wpIn F n P a w K' Q' := by
  obtain ⟨v, hv, hn⟩ := hq
  have hv := hv w hC
  refine ⟨ha w hC, ?_⟩
  rw [sem_plain F.round a.eval o hd]
  unfold Oper.quietAtIn at hv
  cases hr : (execOp a.eval o).run P w with
  | halt x w' => rw [hr] at hv; exact hv.elim
  | ok x w' =>
    rw [hr] at hv
    cases x with
    | value u => obtain ⟨rfl, rfl⟩ := hv; exact hK _ _ hC hn
    | skip => obtain ⟨rfl, rfl⟩ := hv; exact hK _ _ hC hn
    | enter f args =>
      obtain ⟨rfl, h1, hc⟩ := hv
      exact ⟨h1, hc.mono fun e w'' ⟨he, hw⟩ => by subst he; exact hK _ _ hw hn⟩
    | defer d => exact hv.elim
    | row r args => exact hv.elim
    | round l f t c1 c2 => exact hv.elim
    | _ => exact hv.elim
theorem any_reads {Q : Act → Prop} {Q' : Exit → Act → World → Prop} {md : Region.Mode} (hd : ∀ (i : Nat) (o : Oper), ops[i]? = some o → ∀ c, o.op ≠ .defer c) (hQ : ∀ a w, C w → Q a → Q' .normal a w) :
    ∀ (fuel : Nat) (listed : Array Bool) (a : Act) (w : World), C w → wpAnyQIn F n P md ops C Q fuel listed a → wpAnyIn F n P md ops Q' fuel listed a w
  | 0, _, _, _, hw, h => ⟨h.1, hQ _ _ hw h.2⟩
  | fuel + 1, listed, a, w, hw, h => ⟨fun h0 => hQ _ _ hw (h.1 h0), fun i hi => by
      have hi := h.2 i hi
      have ih := fun (a : Act) (w' : World) (hw' : C w') => any_reads (md := md) hd hQ fuel (listed.setIfInBounds i true) a w' hw'
      unfold qOpIn at hi
      unfold wpOpIn
      cases ho : ops[i]? with
      | none => rw [ho] at hi; exact ih _ _ hw hi
      | some o =>
        rw [ho] at hi
        simp only at hi ⊢
        obtain ⟨ha, hi⟩ := hi
        by_cases hwt : Region.wanted o (yielded ops a.tmps) = true
        · rw [if_pos hwt] at hi ⊢
          exact op_reads (hd i o ho) hw ih ha hi
        · rw [if_neg hwt] at hi ⊢
          exact ⟨ha _ hw, ih _ _ hw hi⟩⟩
theorem region_reads {id : Nat} {Q : Exit → Act → World → Prop} {a : Act} {w : World} {l : List Oper} (hnd : noDefer l.toArray = true) (hm : P.follows .mixedOrders = true) (hB : Region.lexB .any l.toArray = true)
    (h : wpQuietIn F n P l.toArray (fun w' => ∃ k, w' = w.drewN k) (fun a' => ∀ w', (∃ k, w' = w.drewN k) → Q .normal a' w') l a) : (Code.region id l.toArray true).wpIn F n P Q a w := by
  simp only [Region.lexB, Bool.and_eq_true] at hB
  have hd : ∀ (i : Nat) (o : Oper), l.toArray[i]? = some o → ∀ c, o.op ≠ .defer c := fun i o ho c hc => by
    have hm : o ∈ l := by have := Array.mem_of_getElem? ho; simpa using this
    have := List.all_eq_true.1 hnd o (by simpa using hm)
    rw [hc] at this
    cases this
  refine wpIn_region_any hm (any_reads (C := fun w' => ∃ k, w' = w.drewN k) (Q := fun a' => ∀ w', (∃ k, w' = w.drewN k) → Q .normal a' w') hd (fun _ w' hw' h => h w' hw') _ _ _ _ ⟨1, rfl⟩ ?_)
  have := wpAnyQIn_lex (F := F) (n := n) (C := fun w' => ∃ k, w' = w.drewN k) (md := .any) hB.1 l 0 (Array.replicate l.toArray.size false) a (by simp) (by simpa using hB.2) h
  simpa using this
end
theorem cellStruct : Tryd.prog.underlying 31 = some (.struct (Tryd.prog.fieldsOf 31)) := by kernel_rfl
set_option maxRecDepth 100000 in
theorem eq_cell (a b c d : Int) (w : World) : (Op.equalIn 10000 31 (.agg #[.int .i64 a, .int .i64 b]) (.agg #[.int .i64 c, .int .i64 d])).run Tryd.prog w = .ok (a == c && b == d) w := by
  have e := run_equalIn_agg w 9999 31 #[.int .i64 a, .int .i64 b] #[.int .i64 c, .int .i64 d] cellStruct (by kernel_rfl)
  rw [show (10000 : Nat) = 9999 + 1 from rfl, e]
  simp only [Program.fieldsOf, Tryd.underlying31]
  have u3 := Tryd.underlying3
  have a3 := Tryd.isAgg3
  have z3 := Tryd.sizeOf3
  go_simp
  by_cases h1 : a = c <;> by_cases h2 : b = d <;> simp [h1, h2]
/-! ### A list of cells -/
def fl (R C : Nat → Int) : Nat → List Value
  | 0 => []
  | n + 1 => fl R C n ++ [.int .i64 (R n), .int .i64 (C n)]
theorem fl_length (R C : Nat → Int) : ∀ n, (fl R C n).length = n * 2
  | 0 => rfl
  | n + 1 => by simp [fl, fl_length R C n]; omega
theorem fl_at (R C : Nat → Int) (k : Nat) : ∀ n, k < n → (fl R C n)[k * 2]? = some (.int .i64 (R k)) ∧ (fl R C n)[k * 2 + 1]? = some (.int .i64 (C k))
  | 0, h => absurd h (Nat.not_lt_zero _)
  | n + 1, h => by
    have hl := fl_length R C n
    by_cases e : k = n
    · subst e
      unfold fl
      rw [List.getElem?_append_right (by omega), List.getElem?_append_right (by omega), hl, Nat.sub_self, show k * 2 + 1 - k * 2 = 1 by omega]
      exact ⟨rfl, rfl⟩
    · have ih := fl_at R C k n (by omega)
      unfold fl
      rw [List.getElem?_append_left (by omega), List.getElem?_append_left (by omega)]
      exact ih
theorem fl_one (R C : Nat → Int) : ∀ n u, u ∈ fl R C n → u.oneCell' = true
  | 0, _, h => by cases h
  | n + 1, u, h => by
    unfold fl at h
    rw [List.mem_append] at h
    rcases h with h | h
    · exact fl_one R C n u h
    · simp at h; rcases h with rfl | rfl <;> rfl
theorem cells_of_own {w : World} {base n : Nat} {v : Value} {R C : Nat → Int} (h : w.ownsRow base 31 2 v n (fl R C n)) : IsCells w v n R C := by
  by_cases h0 : n = 0
  · subst h0
    rcases h.2 with ⟨rfl, _⟩ | ⟨g, cap, cur, rfl, _⟩ <;> exact .inl ⟨rfl, _, _, rfl⟩
  · obtain ⟨g, cap, rfl, _, hlt⟩ := h.form (by omega)
    refine .inr ⟨g, 0, cap, rfl, hlt, fun k hk => ?_⟩
    rw [Nat.zero_add, h.cellAt (k * 2) (by omega), h.cellAt (k * 2 + 1) (by omega)]
    exact fl_at R C k n hk
theorem fl_cells {w : World} {n b off : Nat} {R C : Nat → Int} (hc : ∀ k, k < n → w.cell? ⟨b, off + k * 2, none⟩ = some (.int .i64 (R k)) ∧ w.cell? ⟨b, off + k * 2 + 1, none⟩ = some (.int .i64 (C k))) :
    ∀ j u, (fl R C n)[j]? = some u → w.cell? ((⟨b, off, none⟩ : Addr).add j) = some u := by
  intro j u hj
  have hlt : j < n * 2 := by rw [← fl_length R C n]; exact (List.getElem?_eq_some_iff.1 hj).1
  rw [add_none]
  obtain ⟨k, hk⟩ : ∃ k, k = j / 2 := ⟨_, rfl⟩
  have hkn : k < n := by omega
  rcases (by omega : j = k * 2 ∨ j = k * 2 + 1) with e | e
  · subst e; rw [(fl_at R C k n hkn).1] at hj; rw [(hc k hkn).1]; exact hj
  · subst e; rw [(fl_at R C k n hkn).2] at hj; rw [← Nat.add_assoc, (hc k hkn).2]; exact hj
theorem run_append_none {P : Program} {w : World} (base : Nat) (t ty e : TypeId) (i : TypeInfo) (size : Nat) (ht : P.underlying t = some (.slice e)) (hi : P.info? e = some i) (g c cap : Nat) :
    (Builtin.append_ #[t, t] ty #[.slice (some ⟨g, 0, none⟩) 0 cap, .slice none 0 c]).run P w = .ok (.slice (some ⟨g, 0, none⟩) 0 cap) w := by
  simp [Builtin.append_, run_underlying ht, sizeOf, typeInfo, hi, Builtin.lenOf, Builtin.firstCells, storeCells, Sem.run_bind, Result.andThen]
theorem wpList_append_copy {ops : Array Oper} {rest : List Oper} {o : Oper} {a : Act} {w : World} {Q : Exit → Act → World → Prop} (hgd : o.guard = none) (s x : Operand)
    (ho : o.op = .call { callee := .builtin .append, args := #[s, x], argTypes := #[22, 22] }) (base g : Nat) (hs : a.eval s = .slice (some ⟨g, 0, none⟩) 0 0)
    (hown : w.ownsRow base 31 2 (.slice (some ⟨g, 0, none⟩) 0 0) 0 []) (n : Nat) (R C : Nat → Int) (v : Value) (hx : a.eval x = v) (hv : IsCells w v n R C) (hn : n * 16 ≤ 140737488355328) (hbase : base ≤ w.heap.size)
    (h : ∀ v' w', w'.ownsRow base 31 2 v' n (fl R C n) → w.grownBy w' (some g) → wpList Tryd.prog ops Q rest (a.put o.dst v') w') : wpList Tryd.prog ops Q (o :: rest) a w := by
  obtain ⟨i0, hi, hz0, hz1, hz2⟩ := info_parts cellInfo
  rcases hv with ⟨rfl, ao, cap, rfl⟩ | ⟨b, off, cap, rfl, hb, hc⟩
  · cases ao with
    | none =>
      refine wpList_plain hgd fun K hK => ?_
      have hrun := run_append_none (P := Tryd.prog) (w := w) base 22 o.type 31 i0 2 cellType hi g cap 0
      unfold Oper.wp
      simp [execOp, ho, resolve, invoke, builtin, hs, hx, hrun, Result.andThen]
      exact hK _ _ (h _ w hown (World.grownBy.refl w _))
    | some ad =>
      exact wpList_append_own _ hgd s x 22 ho base 31 i0 _ 2 16 cellType hi hz0 hz1 hz2 rfl (by decide) _ 0 [] hs hown ad 0 cap [] hx rfl (fun j u h => by cases h) (fun u h => by cases h) (by decide) (by decide) hbase
        fun v' w' h1 h2 _ => h v' w' (by simpa [fl] using h1) h2
  · exact wpList_append_own _ hgd s x 22 ho base 31 i0 _ 2 16 cellType hi hz0 hz1 hz2 rfl (by decide) _ 0 [] hs hown ⟨b, off, none⟩ n cap (fl R C n) hx (fl_length R C n) (fl_cells hc) (fl_one R C n) (by unfold maxLen; omega) (by omega) hbase
        fun v' w' h1 h2 _ => h v' w' (by simpa using h1) h2
theorem bcells_any (f : Nat → Nat) (w : World) : Calls Tryd.prog 11 #[.agg (Rw f)] w fun e w' =>
    e = .returned (.func (.func 27) #[] #[.pointer (some ⟨w.heap.size, 0, none⟩)]) ∧ w' = w.alloc (.cells (Rw f) 25) := by
  go_enter Tryd.func11, Tryd.ntmps11
  go_wp2_with fail
  go_ret
  exact ⟨rfl, rfl⟩
end Go.Proofs.YtbcklcikmhpclaaDoor
