/-
  Blocks: the sequence, made.
-/
import Derived.Test.YtoaeeojnelmlnaaDoorQBSeq
namespace Go.Proofs.YtoaeeojnelmlnaaDoor
open Go.RowKit Go.Shelf
set_option linter.unusedVariables false
set_option linter.unusedSimpArgs false
/-! ### The places rise -/
theorem rise_rowL (M : Nat → Nat → Bool) (i k : Nat) : (rowL M i k).Pairwise fun p q => p.1 * 16 + p.2 < q.1 * 16 + q.2 := by
  induction k with
  | zero => simp [rowL]
  | succ k ih =>
    rw [rowL_succ, List.pairwise_append]
    refine ⟨ih, by split <;> simp, fun x hx y hy => ?_⟩
    obtain ⟨h1, h2, _⟩ := mem_rowL.1 hx
    split at hy
    · simp at hy; subst hy; simp only; omega
    · cases hy
theorem rise_gridL (M : Nat → Nat → Bool) (n k : Nat) (hn : n ≤ 16) : (gridL M n k).Pairwise fun p q => p.1 * 16 + p.2 < q.1 * 16 + q.2 := by
  induction k with
  | zero => simp [gridL]
  | succ k ih =>
    rw [gridL_succ, List.pairwise_append]
    refine ⟨ih, rise_rowL M k n, fun x hx y hy => ?_⟩
    obtain ⟨h1, h2, _⟩ := mem_gridL.1 hx
    obtain ⟨h3, h4, _⟩ := mem_rowL.1 hy
    omega
theorem rise_placesL (M : Nat → Nat → Bool) {side : Nat} (h : side ≤ 1024) : (placesL M side).Pairwise fun p q => p.1 * 16 + p.2 < q.1 * 16 + q.2 := rise_gridL M _ _ (lns_le h)
/-- The last place's number, -1 where there is none. -/
def lastN (l : List (Nat × Nat)) : Int := match l.getLast? with | none => -1 | some p => (p.1 * 16 + p.2 : Nat)
theorem lastN_app (l : List (Nat × Nat)) (p : Nat × Nat) : lastN (l ++ [p]) = (p.1 * 16 + p.2 : Nat) := by simp [lastN]
theorem lastN_lt {L pre : List (Nat × Nat)} {p : Nat × Nat} (hr : L.Pairwise fun p q => p.1 * 16 + p.2 < q.1 * 16 + q.2) (h : pre ++ [p] = L.take (pre.length + 1)) : lastN pre < (p.1 * 16 + p.2 : Nat) := by
  unfold lastN
  cases hl : pre.getLast? with
  | none => simp only; omega
  | some q =>
    have hq : q ∈ pre := List.mem_of_getLast? hl
    have hs : (pre ++ [p]).Pairwise fun p q => p.1 * 16 + p.2 < q.1 * 16 + q.2 := by rw [h]; exact hr.sublist (List.take_sublist ..)
    have := (List.pairwise_append.1 hs).2.2 q hq p (by simp)
    simp only; omega
theorem foldP_none {tp : Nat × Nat → Nat × Nat} {ct : Nat × Nat → Nat → Nat} {l : List (Nat × Nat)} {i j : Nat} (h : ∀ p ∈ l, tp p ≠ (i, j)) (r c : Nat) (hr : r < 64) (hc : c < 64) : sub (foldP tp ct l) i j r c = false := by
  cases hb : sub (foldP tp ct l) i j r c
  · rfl
  · obtain ⟨p, hp, h1, h2, _⟩ := foldP_iff.1 hb
    refine absurd (Prod.ext ?_ ?_) (h p hp)
    · simp only; omega
    · simp only; omega
/-- A fresh place's block is news; the second time it is none. -/
theorem new_once {N : Nat → Nat → Bool} {i j : Nat} {S : Nat → Nat → Bool} (hn : ∃ r c, r < 64 ∧ c < 64 ∧ S r c = true) (h0 : ∀ r c, r < 64 → c < 64 → sub N i j r c = false) : newB N i j (blk S) = true := by
  obtain ⟨r, c, hr, hc, h⟩ := hn
  exact newB_iff.2 ⟨r, c, hr, hc, by rw [bt_blk _ _ _ hc]; exact h, h0 r c hr hc⟩
theorem new_twice {N : Nat → Nat → Bool} {i j : Nat} {f : Nat → Nat} : newB (orM N i j f) i j f = false := by
  cases hb : newB (orM N i j f) i j f
  · rfl
  · obtain ⟨r, c, hr, hc, h1, h2⟩ := newB_iff.1 hb
    rw [sub_or _ _ _ _ hr hc, h1] at h2
    simp at h2
theorem Hold.range {w : World} {g : Nat} {f : Nat → Nat} (h : Hold w g (Rw f)) : w.rangeAt g 0 (Rw f).toList := fun k v hv => by
  rw [Nat.zero_add]
  exact h.cell (by simpa using hv)
/-- A whole block into its variable, in a walk with a fence. -/
theorem wpListIn_st {F : Fence} {n : Nat} {ops : Array Oper} {rest : List Oper} {o : Oper} {a : Act} {w : World} {Q : Exit → Act → World → Prop} (hgd : Region.wanted o (yielded ops a.tmps) = true) (x y : Operand) (ho : o.op = .store 97 x y)
    (g : Nat) (hx : a.eval x = .pointer (some ⟨g, 0, none⟩)) {f : Nat → Nat} (f' : Nat → Nat) (hy : a.eval y = .agg (Rw f')) (hg : Hold w g (Rw f))
    (h : wpListIn F n Tryd.prog ops Q rest (a.put o.dst undef) (w.setRow g (Rw f'))) : wpListIn F n Tryd.prog ops Q (o :: rest) a w :=
  BigFrame.wpListIn_want hgd fun _ hK => by
    have hs := run_storeVar_row (P := Tryd.prog) w g 97 97 (Rw f) (Rw f') hg (by rw [blockSize, Rw_size]) (by rw [Rw_size, Rw_size]) (Rw_one f')
    unfold Oper.wpIn
    refine ⟨?_, ?_⟩
    · simp [Oper.about, ho]
    · rw [Oper.semAt_plain F _ _ (by rw [ho]; intro c hc'; cases hc')]
      unfold execOp
      simp only [ho, hx, hy, Instr.storeAt, Instr.sureAddr, Sem.run_bind, Sem.run_pure, Result.andThen_ok, hs]
      exact hK _ _ h
section
variable {w w' : World} {B side : Nat} {F : Nat → Prop} {M : Nat → Nat → Bool}
section
set_option maxHeartbeats 4000000
set_option maxRecDepth 100000
theorem qblocks_any (h : Mx w B F side M) :
    Calls Tryd.prog 109 #[.pointer (some ⟨B, 0, none⟩)] w fun e w' => ∃ hb v, e = .returned (.func (.func 121) #[] #[.pointer (some ⟨hb, 0, none⟩)]) ∧ Bk w' hb 112 #[v] ∧
      w'.ownsRow w.heap.size 99 66 v (placesL M side).length (srows M (placesL M side)).flatten ∧ w.heap.size ≤ hb ∧ Far (fun _ => False) w w' := by
  have SP := qspots_any h
  clear h
  go_enter Tryd.func109, Tryd.ntmps109
  go_wp2_with fail
  refine SP.mono ?_
  rintro e w1 ⟨v, rfl, hO, hf⟩
  have hO' := Lib.hid hO
  have hf' := Lib.hid hf
  clear SP hO hf
  obtain ⟨ao, cap, rfl⟩ := q_form hO'.out
  go_wp2_with fail
  go_ret
  have hz := hf'.out.size
  refine ⟨_, _, rfl, ?bk, row_same hO'.out ?ro, ?lo, ?fa⟩
  case bk => exact Bk.new rfl
  case ro => exact fun k _ hl => heap_alloc_old _ _ hl
  case lo => exact hz
  case fa => exact hf'.out.alloc _
end
end
end Go.Proofs.YtoaeeojnelmlnaaDoor
