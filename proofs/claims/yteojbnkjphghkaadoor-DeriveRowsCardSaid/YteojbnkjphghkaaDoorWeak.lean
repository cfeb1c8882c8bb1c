/-
  Weak productions.
-/
import Derived.Test.YteojbnkjphghkaaDoorRefCheckC
namespace Go.Proofs.YteojbnkjphghkaaDoor
open Go.RowKit
set_option linter.unusedVariables false
set_option linter.unusedSimpArgs false
def shortB : List Sy → Bool
  | [] => true
  | [s] => s.1
  | _ => false
def pairB : List Sy → Bool
  | [a, b] => !a.1 && !b.1
  | _ => false
def weakB (l : List Sy) : Bool := shortB l || pairB l
def WeakP (S : Int) (T : List Tr) : Prop := CnfOK S T ∧ ∀ t ∈ T, weakB t.2.2 = true
section
set_option maxHeartbeats 2000000
set_option maxRecDepth 100000
/-- Functions of a body that only look at its first symbols: what is there. -/
theorem body_cases (w : World) (v : Value) (l : List Sy) (hB : Body w v l) (hs : l.length ≤ maxLen) :
    (l = [] ∧ ∃ ao c, v = .slice ao 0 c) ∨ (∃ s b off c, l = [s] ∧ v = .slice (some ⟨b, off, none⟩) 1 c ∧ w.cell? ⟨b, off, none⟩ = some (.bool s.1)) ∨
    (∃ s t b off c, l = [s, t] ∧ v = .slice (some ⟨b, off, none⟩) 2 c ∧ w.cell? ⟨b, off, none⟩ = some (.bool s.1) ∧ w.cell? ⟨b, off + 2, none⟩ = some (.bool t.1)) ∨ (∃ (n : Nat) (ao : Option Addr) (c : Nat), 3 ≤ n ∧ n ≤ 9223372036854775807 ∧ l.length = n ∧ v = .slice ao n c ∧ shortB l = false ∧ pairB l = false) := by
  unfold maxLen at hs
  match l, hB, hs with
  | [], hB, _ => obtain ⟨ao, c, e⟩ := Src.form hB; exact .inl ⟨rfl, ao, c, e⟩
  | [s], hB, _ =>
    obtain ⟨b, off, c, e, _, c0, _⟩ := hB.sym (k := 0) (s := s) rfl
    exact .inr (.inl ⟨s, b, off, c, rfl, e, by simpa using c0⟩)
  | [s, t], hB, _ =>
    obtain ⟨b, off, c, e, _, c0, _⟩ := hB.sym (k := 0) (s := s) rfl
    obtain ⟨b', off', c', e', _, c1, _⟩ := hB.sym (k := 1) (s := t) rfl
    rw [e] at e'
    simp only [Value.slice.injEq, Option.some.injEq, Addr.mk.injEq] at e'
    obtain ⟨⟨rfl, rfl, _⟩, _, rfl⟩ := e'
    exact .inr (.inr (.inl ⟨s, t, b, off, c, rfl, e, by simpa using c0, by simpa using c1⟩))
  | s :: t :: u :: r, hB, hs =>
    obtain ⟨ao, c, e⟩ := Src.form hB
    exact .inr (.inr (.inr ⟨_, ao, c, by simp, by omega, rfl, e, rfl, rfl⟩))
theorem short_any (v : Value) (l : List Sy) (w : World) (hB : Body w v l) (hs : l.length ≤ maxLen) : Calls Tryd.prog 64 #[v] w fun e w' => e = .returned (.bool (shortB l)) ∧ w = w' := by
  rcases body_cases w v l hB hs with ⟨rfl, ao, c, rfl⟩ | ⟨s, b, off, c, rfl, rfl, c0⟩ | ⟨s, t, b, off, c, rfl, rfl, c0, c1⟩ | ⟨n, ao, c, h3, hmax, hn, rfl, e1, e2⟩
  · clear hB hs
    go_enter Tryd.func64, Tryd.ntmps64
    go_wp2_with fail
    go_ret
    exact ⟨rfl, rfl⟩
  · clear hB hs
    show Calls _ _ _ _ fun e w' => e = .returned (.bool s.1) ∧ w = w'
    go_enter Tryd.func64, Tryd.ntmps64
    go_wp2_with fail
    go_ret
    exact ⟨rfl, rfl⟩
  · clear hB hs
    go_enter Tryd.func64, Tryd.ntmps64
    go_wp2_with fail
    go_ret
    exact ⟨rfl, rfl⟩
  · rw [e1]
    clear hB hs e1 e2
    have g0 : ((n : Int) == 0) = false := by simp; omega
    have g1 : ((n : Int) == 1) = false := by simp; omega
    clear hn
    go_enter Tryd.func64, Tryd.ntmps64
    go_wp2_with fail
    go_ret
    exact ⟨rfl, rfl⟩
theorem pair_any (v : Value) (l : List Sy) (w : World) (hB : Body w v l) (hs : l.length ≤ maxLen) : Calls Tryd.prog 65 #[v] w fun e w' => e = .returned (.bool (pairB l)) ∧ w = w' := by
  rcases body_cases w v l hB hs with ⟨rfl, ao, c, rfl⟩ | ⟨s, b, off, c, rfl, rfl, c0⟩ | ⟨s, t, b, off, c, rfl, rfl, c0, c1⟩ | ⟨n, ao, c, h3, hmax, hn, rfl, e1, e2⟩
  · clear hB hs
    go_enter Tryd.func65, Tryd.ntmps65
    go_wp2_with fail
    go_ret
    exact ⟨rfl, rfl⟩
  · clear hB hs
    go_enter Tryd.func65, Tryd.ntmps65
    go_wp2_with fail
    go_ret
    exact ⟨rfl, rfl⟩
  · clear hB hs
    obtain ⟨s0, s1⟩ := s
    obtain ⟨t0, t1⟩ := t
    simp only [] at c0 c1
    cases s0 <;> cases t0
    all_goals
      go_enter Tryd.func65, Tryd.ntmps65
      go_wp2_with fail
      go_ret
      exact ⟨rfl, rfl⟩
  · rw [e2]
    clear hB hs e1 e2
    have g0 : ((n : Int) == 2) = false := by simp; omega
    clear hn
    go_enter Tryd.func65, Tryd.ntmps65
    go_wp2_with fail
    go_ret
    exact ⟨rfl, rfl⟩
theorem is1_any (h0 : Int) (v : Value) (l : List Sy) (w : World) (hB : Body w v l) (hs : l.length ≤ maxLen) : Calls Tryd.prog 63 #[.agg #[.int .i64 h0, v]] w fun e w' => e = .returned (.bool (!weakB l)) ∧ Far (fun _ => False) w w' := by
  obtain ⟨h, hh⟩ : ∃ h, h = w.heap.size := ⟨_, rfl⟩
  obtain ⟨ao, c, rfl⟩ := Src.form hB
  obtain ⟨w1, hw1⟩ : ∃ w1, w1 = w.alloc (.cells #[.int .i64 h0, .slice ao l.length c] 48) := ⟨_, rfl⟩
  have hA : Bk w1 h 48 #[.int .i64 h0, .slice ao l.length c] := hw1 ▸ Bk.new hh
  have hF : Far (fun _ => False) w w1 := hw1 ▸ (Far.refl _ w).alloc _
  have a1 : w1.cell? ⟨h, 1, none⟩ = some (.slice ao l.length c) := hA.cell 1
  have SH := short_any (.slice ao l.length c) l w1 (hB.move hF) hs
  have PA := pair_any (.slice ao l.length c) l w1 (hB.move hF) hs
  have hE : weakB l = (shortB l || pairB l) := rfl
  have hh' := Lib.hid hh
  have hw1' := Lib.hid hw1
  have hF' := Lib.hid hF
  clear hB hh hw1 hA hF hs
  rw [hE]
  clear hE
  cases hsb : shortB l <;> cases hpb : pairB l <;> rw [hsb] at SH <;> rw [hpb] at PA <;> clear hsb hpb
  all_goals
    go_enter Tryd.func63, Tryd.ntmps63
    go_upto_region 1 with fail
    rw [← hh'.out, ← hw1'.out]
    go_wp2_with (first | (go_at_call 64; refine SH.mono ?_; rintro e w' ⟨rfl, rfl⟩) | (go_at_call 65; refine PA.mono ?_; rintro e w' ⟨rfl, rfl⟩))
    go_ret
    exact ⟨rfl, hF'.out⟩
theorem index_any (v : Value) (T : List Tr) (w : World) (hP : Prods w v T) (hs : T.length ≤ maxLen) (hs2 : ∀ t ∈ T, t.2.2.length ≤ maxLen) :
    Calls Tryd.prog 78 #[v, .func (.func 63) #[] #[]] w fun e w' => (∃ k : Int, e = .returned (.int .i64 k) ∧ (((∀ t ∈ T, weakB t.2.2 = true) ∧ k = -1) ∨ (¬ (∀ t ∈ T, weakB t.2.2 = true) ∧ 0 ≤ k))) ∧ Far (fun _ => False) w w' := by
  obtain ⟨ao, pc, rfl⟩ := Src.form hP.1
  have hP1 := Lib.hid hP
  have hs2' := Lib.hid hs2
  unfold maxLen at hs
  clear hP hs2
  go_enter Tryd.func78, Tryd.ntmps78
  go_wp2_with fail
  go_loopw [8] (fun iv wr => ∃ i : Nat, iv = .int .i64 i ∧ i ≤ T.length ∧ (∀ k, k < i → ∀ t, T[k]? = some t → weakB t.2.2 = true) ∧ Far (fun _ => False) w wr) (fun iv _ => T.length - (intOf iv).toNat)
  case atStart => exact ⟨0, rfl, Nat.zero_le _, fun j h => absurd h (Nat.not_lt_zero _), Far.refl _ _⟩
  case round =>
    obtain ⟨i, rfl, hi, hgood, hfw⟩ := hrel
    by_cases hlt : i < T.length
    · have e1 : decide ((i : Int) < (T.length : Int)) = true := by rw [decide_eq_true_eq]; omega
      have hii : (i : Int) < (T.length : Int) := by omega
      obtain ⟨t, ht⟩ : ∃ t, T[i]? = some t := ⟨T[i], List.getElem?_eq_getElem hlt⟩
      obtain ⟨b, off, c, he, hbl, c0, c1, hbd⟩ := (hP1.out.move hfw).prod ht
      simp only [Value.slice.injEq] at he
      obtain ⟨rfl, _, rfl⟩ := he
      obtain ⟨h0, tv, l⟩ := t
      simp only [] at c0 c1 hbd
      obtain ⟨lo, lc, rfl⟩ := Src.form hbd
      have IA := is1_any h0 (.slice lo l.length lc) l wr hbd (hs2'.out _ (List.mem_of_getElem? ht))
      have hgood' := Lib.hid hgood
      have hfw' := Lib.hid hfw
      have ht' := Lib.hid ht
      clear hgood hfw hbd ht hbl
      cases hb : weakB l with
      | true =>
        rw [hb] at IA
        have hb' := Lib.hid hb
        clear hb
        go_wp2_with fail
        refine IA.mono ?_
        rintro e w2 ⟨rfl, hf2⟩
        have hf2' := Lib.hid hf2
        clear hf2 IA
        go_wp2_with fail
        go_roundw
        case rel => exact ⟨i + 1, by go_num, by omega, upto_succ hgood'.out ht'.out hb'.out, hfw'.out.then hf2'.out⟩
        case measure => simp [intOf]; omega
      | false =>
        rw [hb] at IA
        have hno := Lib.hid (show ¬ (∀ t ∈ T, weakB t.2.2 = true) from fun h => by have := h _ (List.mem_of_getElem? ht'.out); rw [hb] at this; cases this)
        clear hb
        go_wp2_with fail
        refine IA.mono ?_
        rintro e w2 ⟨rfl, hf2⟩
        have hf2' := Lib.hid hf2
        clear hf2 IA
        go_wp2_with fail
        go_ret
        exact ⟨⟨(i : Int), rfl, .inr ⟨hno.out, by omega⟩⟩, hfw'.out.then hf2'.out⟩
    · have e1 : decide ((i : Int) < (T.length : Int)) = false := by rw [decide_eq_false_iff_not]; omega
      have hall := Lib.hid (show ∀ t ∈ T, weakB t.2.2 = true from all_upto fun k hk => hgood k (by omega))
      have hfw' := Lib.hid hfw
      clear hgood hfw
      go_wp2_with fail
      go_ret
      exact ⟨⟨-1, rfl, .inl ⟨hall.out, rfl⟩⟩, hfw'.out⟩
end
end Go.Proofs.YteojbnkjphghkaaDoor
