/-
  What the sequence of the verbs hands out.
-/
import Derived.Test.YtjmgheogpglpnaaDoorForms30
import Derived.Test.YtjmgheogpglpnaaDoorRangeOk
import Derived.Laws.EntriesVeiled
namespace Go.Proofs.YtjmgheogpglpnaaDoor
open Go.RowKit Go.Shelf
set_option linter.unusedVariables false
set_option linter.unusedSimpArgs false
theorem far_grown {w w' : World} (h : Far (fun _ => False) w w') : w.grownBy w' none := ⟨h.os, h.tape, h.output, h.size, fun k hk _ => h.block k hk id⟩
/-- The blocks of values from B on are as they were. -/
def KeepC (B : Nat) (A C : World) : Prop := ∀ k cs t, B ≤ k → Bk A k t cs → Bk C k t cs
theorem keepC_t {B : Nat} {A C D : World} (h : KeepC B A C) (k : KeepC B C D) : KeepC B A D := fun i cs t hi hb => k i cs t hi (h i cs t hi hb)
theorem KeepC.of_far {B : Nat} {F : Nat → Prop} {A C : World} (h : Far F A C) (hF : ∀ k, F k → k < B) : KeepC B A C := fun i cs t hi hb => hb.far' h fun e => by have := hF i e; omega
theorem keepC_put {B : Nat} (W : World) (l : Nat) (o o' : Obj) (hl : B ≤ l) (h : W.heap[l]? = some o) (ho : o.isCells = false) : KeepC B W (W.putObj l o') := fun i cs t hi hb => by
  refine (World.putObj_heap_other ?_).trans hb
  intro e
  subst e
  unfold Bk at hb
  rw [h] at hb
  cases hb
  cases ho
theorem round_bool {e : Ending} {A B : Prop} (h : (e = .returned (.bool true) ∧ A) ∨ (e = .returned (.bool false) ∧ B)) : ∃ bv : Bool, e = .returned (.bool bv) ∧ ((bv = true ∧ A) ∨ (bv = false ∧ B)) :=
  h.elim (fun h => ⟨true, h.1, .inl ⟨rfl, h.2⟩⟩) (fun h => ⟨false, h.1, .inr ⟨rfl, h.2⟩⟩)
def vencs (i : Nat) : Array Value := #[.int .i64 ((i : Int) + 1), st (wordV (i + 1))]
def VOk (pre : List Nat) (x : Nat) (W : World) : Prop := pre = List.range x ∧ x < 10
theorem form_at (h i : Nat) (hi : i < 10) : (formsL h).toArray[i * 4]? = some (.int .i64 ((i : Int) + 1)) ∧ (formsL h).toArray[i * 4 + 1]? = some (st (wordV (i + 1))) ∧ (formsL h).toArray[i * 4 + 2]? = some (rdV h (i + 1)) ∧ (formsL h).toArray[i * 4 + 3]? = some (wrV (i + 1)) := by
  have : i = 0 ∨ i = 1 ∨ i = 2 ∨ i = 3 ∨ i = 4 ∨ i = 5 ∨ i = 6 ∨ i = 7 ∨ i = 8 ∨ i = 9 := by omega
  rcases this with rfl | rfl | rfl | rfl | rfl | rfl | rfl | rfl | rfl | rfl <;> exact ⟨by kernel_rfl, by kernel_rfl, by kernel_rfl, by kernel_rfl⟩
theorem rdV_form (h v : Nat) : ∃ f c, rdV h v = .func (.func f) #[] c := by
  unfold rdV fnV clV
  (repeat' split) <;> exact ⟨_, _, rfl⟩
theorem wrV_form (v : Nat) : ∃ f, wrV v = .func (.func f) #[] #[] := by
  unfold wrV fnV
  (repeat' split) <;> exact ⟨_, rfl⟩
set_option maxRecDepth 100000 in
set_option maxHeartbeats 4000000 in
theorem verbs_seq (n : Nat) (hn : 2 ≤ n) (w0 : World) :
    SeqOk n Tryd.prog 31 #[] vencs VOk (KeepC w0.heap.size) (fun xs => xs = List.range 10) (fun pre => ∃ k, k < 10 ∧ pre = List.range (k + 1)) w0 := fun l J Jx W hW hJ hY h0 => by
  have FM : CallsIn Fence.wide (n - 1) Tryd.prog 32 #[] W _ := callsIn_wide.2 (forms_any W)
  have HY := Lib.hid hY
  have HJ := Lib.hid hJ
  have hW0 := Lib.hid hW
  clear hY hJ hW
  refine callsIn_of_wp Tryd.func31 rfl trivial ?_ rfl
  simp only [Tryd.ntmps31, List.size_toArray, List.length_cons, List.length_nil, Nat.reduceAdd, Nat.reduceSub, Array.replicate_succ, Array.replicate_zero, List.push_toArray, List.append_toArray, List.nil_append, List.cons_append]
  have hn1 : 1 ≤ n := by omega
  gi_wp2_with (refine ⟨trivial, ?_⟩; refine FM.mono ?_; rintro e w1 ⟨h, hh, rfl, hB, -, hf⟩; have hh' := Lib.hid hh; have hf' := Lib.hid hf; have hB' := Lib.hid hB; clear hh hf hB)
  clear FM
  gi_loopw [6] (fun iv wr => ∃ (i : Nat), iv = .int .i64 i ∧ i ≤ 10 ∧ J (List.range i) wr ∧ Bk wr (h + 6) 61 (formsL h).toArray) (fun iv _ => 10 - (intOf iv).toNat)
  case atStart => exact ⟨0, rfl, Nat.zero_le _, HJ.out _ _ _ none h0 (far_grown hf'.out) (fun r e => by cases e), hB'.out⟩
  case round =>
    clear h0
    obtain ⟨i, rfl, hi, hJi, hb⟩ := hrel
    by_cases hlt : i < 10
    · have e1 : decide ((i : Int) < 10) = true := by rw [decide_eq_true_eq]; omega
      have hii : (i : Int) < 10 := by omega
      obtain ⟨q0, q1, q2, q3⟩ := form_at h i hlt
      obtain ⟨rf, rc, hr⟩ := rdV_form h (i + 1)
      obtain ⟨wf, hw⟩ := wrV_form (i + 1)
      rw [hr] at q2
      rw [hw] at q3
      have c0 : wr.cell? ⟨h + 6, i * 4, none⟩ = some (.int .i64 ((i : Int) + 1)) := (hb.cell _).trans q0
      have c1 : wr.cell? ⟨h + 6, i * 4 + 1, none⟩ = some (.string ⟨(wordV (i + 1)).toArray⟩) := (hb.cell _).trans q1
      have c2 : wr.cell? ⟨h + 6, i * 4 + 2, none⟩ = some (.func (.func rf) #[] rc) := (hb.cell _).trans q2
      have c3 : wr.cell? ⟨h + 6, i * 4 + 3, none⟩ = some (.func (.func wf) #[] #[]) := (hb.cell _).trans q3
      have hr' := Lib.hid hr
      have hw' := Lib.hid hw
      clear q0 q1 q2 q3 hr hw
      obtain ⟨wa, hwa⟩ : ∃ wa, wa = wr.alloc (.cells #[.int .i64 ((i : Int) + 1), .string ⟨(wordV (i + 1)).toArray⟩, .func (.func rf) #[] rc, .func (.func wf) #[] #[]] 61) := ⟨_, rfl⟩
      have hfa : Far (fun _ => False) wr wa := hwa ▸ (Far.refl _ wr).alloc _
      have hX : Bk wa wr.heap.size 61 #[.int .i64 ((i : Int) + 1), .string ⟨(wordV (i + 1)).toArray⟩, .func (.func rf) #[] rc, .func (.func wf) #[] #[]] := hwa ▸ Bk.new rfl
      have x0 : wa.cell? ⟨wr.heap.size, 0, none⟩ = some (.int .i64 ((i : Int) + 1)) := hX.cell 0
      have x1 : wa.cell? ⟨wr.heap.size, 1, none⟩ = some (.string ⟨(wordV (i + 1)).toArray⟩) := hX.cell 1
      obtain ⟨fn, tmps, assign, body, hy, hR⟩ := HY.out (List.range i) i wa (HJ.out _ _ _ none hJi (far_grown hfa) (fun r e => by cases e)) ⟨rfl, hlt⟩
      simp only [vencs, st] at hy
      have hba := Lib.hid (hb.far' hfa id)
      have hsz := Lib.hid (show w0.heap.size ≤ h + 6 by have := hh'.out; have := hW0.out.size; omega)
      clear hb hX hfa hJi
      subst hwa
      gi_wp2_with (refine hR.mono ?_; rintro e W3 (⟨rfl, hJ3, hk3⟩ | ⟨rfl, hJx3⟩))
      · exact ⟨⟨i + 1, by go_num, by omega, by rw [List.range_succ]; exact hJ3, hk3 _ _ _ hsz.out hba.out⟩, by simp [intOf]; omega⟩
      · refine bodyPost_ret (results_none rfl _ _ _) rfl ?_
        exact ⟨⟨_, rfl⟩, .inr ⟨_, ⟨i, hlt, List.range_succ.symm⟩, hJx3⟩⟩
    · have e1 : decide ((i : Int) < 10) = false := by rw [decide_eq_false_iff_not]; omega
      have hin : i = 10 := by omega
      subst hin
      have HJi := Lib.hid hJi
      clear hJi
      gi_wp2
      go_end0
      exact ⟨⟨_, rfl⟩, .inl ⟨_, rfl, HJi.out⟩⟩
end Go.Proofs.YtjmgheogpglpnaaDoor
