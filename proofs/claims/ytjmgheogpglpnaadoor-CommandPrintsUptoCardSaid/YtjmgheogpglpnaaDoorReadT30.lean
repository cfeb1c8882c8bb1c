/-
  The program reads a text; an evaluator and a name.
-/
import Derived.Test.YtjmgheogpglpnaaDoorParse30
import Derived.Laws.MakeOwn
import Derived.StillTactics
import Derived.StillTailTactics
namespace Go.Proofs.YtjmgheogpglpnaaDoor
open Go.RowKit
set_option linter.unusedVariables false
set_option linter.unusedSimpArgs false
theorem rd_set {w : World} {k : Nat} {s : St} {t : TypeId} {cs : Array Value} {g : Nat} (hr : RdB w k s) (hg : Bk w g t cs) (hne : (70 : TypeId) ≠ t) : k ≠ g := bk_ne hr hg hne
section
set_option maxHeartbeats 4000000
set_option maxRecDepth 100000
theorem readText_any (v kr kc B : Nat) (hv : v = 1 ∨ v = 2) (s : St) (w : World) (hr : RdB w kr s) (hc : Bk w kc 27 (cmdNil v)) :
    Calls Tryd.prog 39 #[.pointer (some ⟨kr, 0, none⟩), .pointer (some ⟨kc, 0, none⟩)] w (RPost B kr kc w (readF v s)) := by
  obtain ⟨r, m⟩ := s
  have hne := bk_ne hr hc rd_cmd
  have hne2 : kc ≠ kr := fun e => hne e.symm
  have hf : readF v (r, m) = if m = true then some ({ cm0 with v := v, text := r }, ([], false)) else none := by unfold readF; rw [if_pos hv]
  rw [hf]
  clear hf
  cases m with
  | false =>
    have TX := text_no kr r w hr
    have hc' := Lib.hid hc
    clear hr hc
    go_enter Tryd.func39, Tryd.ntmps39
    go_wp2_with (refine TX.mono ?_; rintro e w1 ⟨rfl, hf⟩; have hf' := Lib.hid hf; clear hf)
    refine ⟨rfl, hf'.out.mono fun k _ e => .inl e, rfl, _, rfl, hc'.out.far' hf'.out hne2⟩
  | true =>
    have TX := text_yes kr r w hr
    have hc' := Lib.hid hc
    clear hr hc
    unfold st at TX
    go_enter Tryd.func39, Tryd.ntmps39
    go_wp2_with (refine TX.mono ?_; rintro e w1 ⟨rfl, hr1, hf⟩; have hc1 := Lib.hid (hc'.out.far' hf hne2); have f4 := hc1.out.free 4; have c4 : w1.cell? ⟨kc, 4, none⟩ = some (.string ⟨#[]⟩) := hc1.out.cell 4; have hr1' := Lib.hid hr1; have hf' := Lib.hid hf; clear hf hr1)
    have hS := Lib.hid ((Far.refl (fun k => k = kc) w1).set ⟨kc, 4, none⟩ (.string ⟨r.toArray⟩) (fun _ => rfl))
    go_end0
    exact ⟨(hf'.out.mono (G := FR B kr kc) fun k _ e => .inl e).trans (hS.out.mono (G := FR B kr kc) fun k _ e => .inr (.inl e)) fun _ _ h => h, rfl, hr1'.out.far' hS.out hne, _, _, hc1.out.set 4 _, World.ownsRow_nil _ _ _ _, World.ownsRow_nil _ _ _ _⟩
theorem reads1 (L : Nat → Nat → World → Prop) : ReadsV L 1 := fun h kr kc B s w f cp e hb hr hc h1 h2 h3 h4 hs _ => by
  have e' : rdV h 1 = fnV 39 := rfl
  rw [e'] at e
  unfold fnV at e
  simp only [Value.func.injEq, Fn.func.injEq] at e
  obtain ⟨rfl, _, rfl⟩ := e
  exact readText_any 1 kr kc B (.inl rfl) s w hr hc
theorem reads2 (L : Nat → Nat → World → Prop) : ReadsV L 2 := fun h kr kc B s w f cp e hb hr hc h1 h2 h3 h4 hs _ => by
  have e' : rdV h 2 = fnV 39 := rfl
  rw [e'] at e
  unfold fnV at e
  simp only [Value.func.injEq, Fn.func.injEq] at e
  obtain ⟨rfl, _, rfl⟩ := e
  exact readText_any 2 kr kc B (.inr rfl) s w hr hc
theorem str_row : (Tryd.prog.info? 9).map (fun i => (i.zero, i.size, i.bytes)) = some (some (.string ⟨#[]⟩), 1, 16) := by kernel_rfl
theorem make4 (w : World) : (Instr.makeSlice 24 (.int .i64 4) (.int .i64 4)).run Tryd.prog w = .ok (.slice (some ⟨w.heap.size, 0, none⟩) 4 4) (w.alloc (.cells #[.string ⟨#[]⟩, .string ⟨#[]⟩, .string ⟨#[]⟩, .string ⟨#[]⟩] 9)) := by
  obtain ⟨i, hi, hz, h1, h2⟩ := info_parts str_row
  have := run_makeSlice (P := Tryd.prog) w 24 9 i (.string ⟨#[]⟩) Tryd.underlying24 hi hz .i64 .i64 4 4 (by omega) (Int.le_refl _) (by rw [h1]; decide) (by rw [h2]; decide) (by omega)
  have e : madeCells (Value.string ⟨#[]⟩).cells (Int.toNat 4 * 1) = #[.string ⟨#[]⟩, .string ⟨#[]⟩, .string ⟨#[]⟩, .string ⟨#[]⟩] := by kernel_rfl
  rw [h1, e] at this
  exact this
theorem hows_any (w : World) : Calls Tryd.prog 57 #[] w fun e w' => e = .returned (.slice (some ⟨w.heap.size, 0, none⟩) 4 4) ∧ w' = w.alloc (.cells #[.string ⟨#[]⟩, .string ⟨tMatrix.toArray⟩, .string ⟨tTensor.toArray⟩, .string ⟨tGll.toArray⟩] 9) := by
  have MK := make4
  go_enter Tryd.func57, Tryd.ntmps57
  go_wp2_with fail
  go_ret
  exact ⟨rfl, rfl⟩
/-- Where a text stands in a list; -1: nowhere. -/
def idxT (l : List Tx) (x : Tx) : Int := if x ∈ l then (l.idxOf x : Int) else -1
theorem idxT_at {l : List Tx} {x : Tx} {i : Nat} (hi : l[i]? = some x) (hn : ∀ j y, j < i → l[j]? = some y → y ≠ x) : idxT l x = i := by
  have hm : x ∈ l := List.mem_of_getElem? hi
  have hl := List.idxOf_lt_length_of_mem hm
  have hx : l[l.idxOf x]? = some x := by rw [List.getElem?_eq_getElem hl]; simp
  unfold idxT
  rw [if_pos hm]
  congr 1
  rcases Nat.lt_trichotomy (l.idxOf x) i with h | h | h
  · exact absurd rfl (hn _ _ h hx)
  · exact h
  · exfalso
    have hil := (List.getElem?_eq_some_iff.1 hi).1
    have := List.not_of_lt_findIdx (p := (· == x)) (xs := l) (i := i) (by simpa [List.idxOf] using h)
    rw [List.getElem?_eq_getElem hil] at hi
    simp [Option.some.inj hi] at this
theorem index_any (g : Nat) (l : List Tx) (x : Tx) (w : World) (hc : ∀ k y, l[k]? = some y → w.cell? ⟨g, k, none⟩ = some (.string ⟨y.toArray⟩)) (hl : l.length ≤ maxLen) :
    Calls Tryd.prog 56 #[.slice (some ⟨g, 0, none⟩) l.length l.length, .string ⟨x.toArray⟩] w fun e w' => e = .returned (.int .i64 (idxT l x)) ∧ Far (fun _ => False) w w' := by
  unfold maxLen at hl
  obtain ⟨n, hn⟩ : ∃ n, n = l.length := ⟨_, rfl⟩
  rw [← hn] at hl ⊢
  have hn' := Lib.hid hn
  have hc' := Lib.hid hc
  clear hn hc
  go_enter Tryd.func56, Tryd.ntmps56
  go_wp2_with fail
  go_loopw [8] (fun iv wr => ∃ i : Nat, iv = .int .i64 i ∧ i ≤ n ∧ (∀ j y, j < i → l[j]? = some y → y ≠ x) ∧ ∃ q, wr = w.drewN q) (fun iv _ => n - (intOf iv).toNat)
  case atStart => exact ⟨0, rfl, Nat.zero_le _, fun j y h => absurd h (Nat.not_lt_zero _), 0, rfl⟩
  case round =>
    obtain ⟨i, rfl, hi, hno, q, rfl⟩ := hrel
    by_cases hlt : i < n
    · have e1 : decide ((i : Int) < (n : Int)) = true := by rw [decide_eq_true_eq]; omega
      have hii : (i : Int) < (n : Int) := by omega
      obtain ⟨y, hy⟩ : ∃ y, l[i]? = some y := ⟨l[i]'(by have := hn'.out; omega), List.getElem?_eq_getElem _⟩
      have d1 := hc'.out i y hy
      have d2 : (w.drewN q).cell? ⟨g, i, none⟩ = some (.string ⟨y.toArray⟩) := d1
      have hno' := Lib.hid hno
      clear hno
      by_cases hxy : x = y
      · subst hxy
        have q1 : ((⟨x.toArray⟩ : ByteArray).toList == (⟨x.toArray⟩ : ByteArray).toList) = true := by simp
        have q2 : (x == x) = true := by simp
        have hid := Lib.hid (idxT_at hy hno'.out)
        clear hy
        go_wp2_with fail
        go_ret
        exact ⟨by rw [hid.out]; rfl, (Far.refl _ w).drewN q⟩
      · have q1 : ((⟨x.toArray⟩ : ByteArray).toList == (⟨y.toArray⟩ : ByteArray).toList) = false := by rw [str_beq]; simpa using hxy
        have q2 : (x == y) = false := by simpa using hxy
        have hne := Lib.hid hxy
        have hy' := Lib.hid hy
        clear hxy hy
        go_wp2_with fail
        refine ⟨⟨i + 1, by go_num, by omega, fun j z hj hz => ?_, q, rfl⟩, by simp [intOf]; omega⟩
        by_cases hji : j = i
        · subst hji
          have hyy := hy'.out
          rw [hyy] at hz
          injection hz with hz
          subst hz
          exact fun e => hne.out e.symm
        · exact hno'.out j z (by omega) hz
    · have e1 : decide ((i : Int) < (n : Int)) = false := by rw [decide_eq_false_iff_not]; omega
      have hin : i = n := by omega
      have hno' := Lib.hid hno
      clear hno
      go_wp2_with fail
      go_ret
      have hnm : x ∉ l := fun hm => by
        obtain ⟨j, hj, e⟩ := List.getElem_of_mem hm
        exact hno'.out j x (by have := hn'.out; omega) (by rw [List.getElem?_eq_getElem hj, e]) rfl
      exact ⟨by unfold idxT; rw [if_neg hnm]; rfl, (Far.refl _ w).drewN q⟩
end
end Go.Proofs.YtjmgheogpglpnaaDoor
