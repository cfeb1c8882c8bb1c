/-
  A matrix or none; Of whatever it is asked.
-/
import Derived.Test.YtjolkhiggcmoiaaGreatDoorQLaws
namespace Go.Proofs.YtjolkhiggcmoiaaGreatDoor
open Go.RowKit Go.Shelf
set_option linter.unusedVariables false
set_option linter.unusedSimpArgs false
def zeroM : Nat → Nat → Bool := fun _ _ => false
/-- A matrix, with the blocks that it lies in, or none (of the side 0). -/
def HasF (w : World) (v : Value) (F : Nat → Prop) (s : Nat) (M : Nat → Nat → Bool) : Prop := (v = .pointer none ∧ s = 0 ∧ M = zeroM ∧ F = fun _ => False) ∨ ∃ B, v = .pointer (some ⟨B, 0, none⟩) ∧ Mx w B F s M
theorem HasF.kept {w w' : World} {v : Value} {F G : Nat → Prop} {s : Nat} {M : Nat → Nat → Bool} (h : HasF w v F s M) (hf : Far G w w') (hG : ∀ k, F k → ¬ G k) : HasF w' v F s M :=
  h.imp id fun ⟨B, e, hX⟩ => ⟨B, e, hX.kept hf hG⟩
theorem HasF.still {w w' : World} {v : Value} {F : Nat → Prop} {s : Nat} {M : Nat → Nat → Bool} (h : HasF w v F s M) (hf : Far (fun _ => False) w w') : HasF w' v F s M := h.kept hf fun _ _ h => h
theorem HasF.none (w : World) : HasF w (.pointer none) (fun _ => False) 0 zeroM := .inl ⟨rfl, rfl, rfl, rfl⟩
theorem HasF.lt {w : World} {v : Value} {F : Nat → Prop} {s : Nat} {M : Nat → Nat → Bool} (h : HasF w v F s M) : ∀ k, F k → k < w.heap.size := by
  rcases h with ⟨_, _, _, rfl⟩ | ⟨B, _, hX⟩
  · exact fun _ h => h.elim
  · exact hX.lt
theorem HasF.within {w : World} {v : Value} {F : Nat → Prop} {s : Nat} {M : Nat → Nat → Bool} (h : HasF w v F s M) : ∀ r c, M r c = true → r < s ∧ c < s := by
  rcases h with ⟨_, _, rfl, _⟩ | ⟨B, _, hX⟩
  · exact fun _ _ h => by cases h
  · exact hX.within
theorem HasF.le {w : World} {v : Value} {F : Nat → Prop} {s : Nat} {M : Nat → Nat → Bool} (h : HasF w v F s M) : s ≤ 1024 := by
  rcases h with ⟨_, rfl, _⟩ | ⟨B, _, hX⟩
  · omega
  · exact hX.sides.2
theorem HasF.ptr {w : World} {v : Value} {F : Nat → Prop} {s : Nat} {M : Nat → Nat → Bool} (h : HasF w v F s M) : ∃ a, v = .pointer a := by
  rcases h with ⟨rfl, _⟩ | ⟨B, rfl, _⟩ <;> exact ⟨_, rfl⟩
/-- The cell number k may be in a matrix of the side s. -/
def cellOK (s : Int) (R C : Nat → Int) (k : Nat) : Bool := decide (0 ≤ R k ∧ R k < s ∧ 0 ≤ C k ∧ C k < s)
def sideOK (s : Int) : Bool := decide (1 ≤ s ∧ s ≤ 1024)
def okC (s : Int) (n : Nat) (R C : Nat → Int) : Bool := sideOK s && (List.range n).all (cellOK s R C)
theorem okC_iff {s : Int} {n : Nat} {R C : Nat → Int} : okC s n R C = true ↔ (1 ≤ s ∧ s ≤ 1024) ∧ ∀ k, k < n → 0 ≤ R k ∧ R k < s ∧ 0 ≤ C k ∧ C k < s := by
  unfold okC sideOK
  rw [Bool.and_eq_true, decide_eq_true_eq, List.all_eq_true]
  refine and_congr Iff.rfl ⟨fun h k hk => of_decide_eq_true (h k (List.mem_range.2 hk)), fun h k hk => decide_eq_true (h k (List.mem_range.1 hk))⟩
/-- The first cell that may not be there. -/
theorem first_bad {s : Int} {R C : Nat → Int} : ∀ {n : Nat}, ¬ (List.range n).all (cellOK s R C) = true → ∃ q, q < n ∧ (∀ k, k < q → cellOK s R C k = true) ∧ cellOK s R C q = false
  | 0, h => absurd rfl h
  | n + 1, h => by
    by_cases h2 : (List.range n).all (cellOK s R C) = true
    · refine ⟨n, by omega, fun k hk => List.all_eq_true.1 h2 k (List.mem_range.2 hk), ?_⟩
      rw [List.range_succ, List.all_append, h2] at h
      simpa using h
    · obtain ⟨q, h1, h3, h4⟩ := first_bad h2
      exact ⟨q, by omega, h3, h4⟩
def ofS (s : Int) (n : Nat) (R C : Nat → Int) : Nat := if okC s n R C = true then s.toNat else 0
def ofM (s : Int) (n : Nat) (R C : Nat → Int) : Nat → Nat → Bool := if okC s n R C = true then putL (fun k => (R k).toNat) (fun k => (C k).toNat) n else zeroM
def ofE (s : Int) (n : Nat) (R C : Nat → Int) : Nat := if okC s n R C = true then 0 else 2
theorem Cls.nat {w : World} {ao : Option Addr} {n : Nat} {R C : Nat → Int} (h : Cls w ao n R C) (h0 : ∀ k, k < n → 0 ≤ R k ∧ 0 ≤ C k) : Cls w ao n (fun k => ((R k).toNat : Nat)) (fun k => ((C k).toNat : Nat)) := fun hn => by
  obtain ⟨g, off, e, hg, hc⟩ := h hn
  refine ⟨g, off, e, hg, fun k hk => ?_⟩
  obtain ⟨h1, h2⟩ := h0 k hk
  dsimp only
  rw [Int.toNat_of_nonneg h1, Int.toNat_of_nonneg h2]
  exact hc k hk
section
set_option maxHeartbeats 4000000
set_option maxRecDepth 100000
theorem Mx.set_no {w : World} {B side : Nat} {F : Nat → Prop} {M : Nat → Nat → Bool} (h : Mx w B F side M) (i j : Int) (hij : i < 0 ∨ (side : Int) ≤ i ∨ j < 0 ∨ (side : Int) ≤ j) :
    Calls Tryz.prog 48 #[.pointer (some ⟨B, 0, none⟩), .int .i64 i, .int .i64 j] w fun e w' => e = .returned (.tuple #[.bool false, .int .i64 2]) ∧ w = w' := by
  obtain ⟨lv, root, nv, lvv, ns, A, ps, hq, hl, rfl⟩ := h
  have G := qget_no hq i j hij
  clear hq hl hij
  go_enter Tryz.func48, Tryz.ntmps48
  go_wp2_with fail
  refine G.mono ?_
  rintro e w' ⟨rfl, rfl⟩
  go_wp2_with fail
  go_ret2
  exact ⟨rfl, rfl⟩
theorem qset_nil (w : World) (i j : Int) : Calls Tryz.prog 48 #[.pointer none, .int .i64 i, .int .i64 j] w fun e w' => e = .returned (.tuple #[.bool false, .int .i64 1]) ∧ w = w' := by
  have G := qget_nil w i j
  go_enter Tryz.func48, Tryz.ntmps48
  go_wp2_with fail
  refine G.mono ?_
  rintro e w' ⟨rfl, rfl⟩
  go_wp2_with fail
  go_ret2
  exact ⟨rfl, rfl⟩
theorem qof_bad (s : Nat) (hs1 : 1 ≤ s) (hs2 : s ≤ 1024) (ao : Option Addr) (n cap : Nat) (R C : Nat → Int) (hn : n ≤ 9223372036854775807) (q : Nat) (hq : q < n) (hr : ∀ k, k < q → cellOK s R C k = true) (hb : cellOK s R C q = false) (w : World) (hC : Cls w ao n R C) :
    Calls Tryz.prog 27 #[.int .i64 s, .slice ao n cap] w fun e w' => e = .returned (.tuple #[.pointer none, .int .i64 2]) ∧ Far (fun _ => False) w w' := by
  have hC' := Lib.hid hC
  have hr' := Lib.hid hr
  have hb' := Lib.hid hb
  clear hC hr hb
  go_enter Tryz.func27, Tryz.ntmps27
  go_wp2_with fail
  refine (qnew_yes s hs1 hs2 w).mono ?_
  rintro e w1 ⟨rfl, l, hl, hw, hB, hf1⟩
  have hM1 := Lib.hid (Mx.new (w := w) hs1 hs2 hl hw hB)
  have hf1' := Lib.hid hf1
  have hw1 := hB.lt
  clear hB hf1
  go_wp2_with fail
  go_loopw [22] (fun kv wr => ∃ k : Nat, k ≤ q ∧ kv = .int .i64 (k : Nat) ∧ (∃ F' M', Mx wr w.heap.size F' s M' ∧ (∀ q, F' q → w.heap.size ≤ q)) ∧ Far (fun _ => False) w wr) (fun kv _ => n - (intOf kv).toNat)
  case atStart => exact ⟨0, Nat.zero_le _, rfl, ⟨_, _, hM1.out, fun q hq => by rw [Qf_none hq]; exact Nat.le_refl _⟩, hf1'.out⟩
  case round =>
    clear hM1 hf1'
    obtain ⟨k, hk, rfl, ⟨F1, M1, hX, hF1⟩, hf⟩ := hrel
    obtain ⟨g, off, rfl, hg, hc⟩ := (hC'.out.move hf) (by omega)
    obtain ⟨c0, c1⟩ := hc k (by omega)
    clear hc
    have dk : (k : Int) < (n : Int) := by omega
    have dk2 : (k : Int) + 1 ≤ 9223372036854775807 := by omega
    have hX' := Lib.hid hX
    have hf' := Lib.hid hf
    have hF1' := Lib.hid hF1
    clear hX hf hF1
    by_cases hlt : k < q
    · have hok := of_decide_eq_true (hr'.out k hlt)
      obtain ⟨i, hi⟩ : ∃ i : Nat, R k = i := ⟨(R k).toNat, by omega⟩
      obtain ⟨j, hj⟩ : ∃ j : Nat, C k = j := ⟨(C k).toNat, by omega⟩
      rw [hi, hj] at hok
      rw [hi] at c0
      rw [hj] at c1
      have hil : i < s := by omega
      have hjl : j < s := by omega
      have hlt' := Lib.hid hlt
      clear hi hj hok
      go_wp2_with fail
      have hfa : Far (fun _ => False) wr (wr.alloc (.cells #[.int .i64 (i : Nat), .int .i64 (j : Nat)] 71)) := (Far.refl _ wr).alloc _
      have S1 := qset_yes (hX'.out.still hfa) i j hil hjl
      have hfa' := Lib.hid hfa
      clear hfa c0 c1
      refine S1.mono ?_
      rintro e w3 ⟨rfl, F2, hX3, hm3⟩
      have hX3' := Lib.hid hX3
      have hm3' := Lib.hid hm3
      clear S1 hX3 hm3
      go_wp2_with fail
      go_roundw
      case rel =>
        refine ⟨k + 1, by omega, by simp, ⟨F2, _, hX3'.out, fun q hq => ?_⟩, ?_⟩
        · rcases hm3'.out.more q hq with h | h
          · exact hF1'.out q h
          · have := (hf'.out.then hfa'.out).size; omega
        · exact (hf'.out.then hfa'.out).trans hm3'.out.far fun q hq h => by have := hF1'.out q h; omega
      case measure => simp only [intOf]; have := hlt'.out; omega
    · obtain rfl : k = q := by omega
      have hbad : R k < 0 ∨ (s : Int) ≤ R k ∨ C k < 0 ∨ (s : Int) ≤ C k := by
        have := of_decide_eq_false hb'.out
        omega
      obtain ⟨i, hi⟩ : ∃ i, R k = i := ⟨_, rfl⟩
      obtain ⟨j, hj⟩ : ∃ j, C k = j := ⟨_, rfl⟩
      rw [hi] at hbad c0
      rw [hj] at hbad c1
      clear hi hj
      have hbad' := Lib.hid hbad
      clear hbad
      go_wp2_with fail
      have hfa : Far (fun _ => False) wr (wr.alloc (.cells #[.int .i64 i, .int .i64 j] 71)) := (Far.refl _ wr).alloc _
      have S1 := (hX'.out.still hfa).set_no i j hbad'.out
      have hfa' := Lib.hid (hf'.out.then hfa)
      clear hfa c0 c1
      refine S1.mono ?_
      rintro e w3 ⟨rfl, rfl⟩
      go_wp2_with fail
      go_ret2
      exact ⟨rfl, hfa'.out⟩
theorem qof_out (s : Int) (hs : s < 1 ∨ 1024 < s) (ao : Option Addr) (n cap : Nat) (w : World) :
    Calls Tryz.prog 27 #[.int .i64 s, .slice ao n cap] w fun e w' => e = .returned (.tuple #[.pointer none, .int .i64 2]) ∧ w = w' := by
  have G := qnew_no s hs w
  clear hs
  go_enter Tryz.func27, Tryz.ntmps27
  go_wp2_with fail
  refine G.mono ?_
  rintro e w' ⟨rfl, rfl⟩
  go_wp2_with fail
  go_ret2
  exact ⟨rfl, rfl⟩
theorem qof_any (s : Int) (ao : Option Addr) (n cap : Nat) (R C : Nat → Int) (hn : n ≤ 9223372036854775807) (w : World) (hC : Cls w ao n R C) :
    Calls Tryz.prog 27 #[.int .i64 s, .slice ao n cap] w fun e w' => ∃ v, e = .returned (.tuple #[v, .int .i64 (ofE s n R C : Nat)]) ∧ ∃ F, HasF w' v F (ofS s n R C) (ofM s n R C) ∧ (∀ k, F k → w.heap.size ≤ k) ∧ Far (fun _ => False) w w' := by
  by_cases h1 : s < 1 ∨ 1024 < s
  · have hno : okC s n R C = false := by
      cases h : okC s n R C
      · rfl
      · have := okC_iff.1 h; omega
    unfold ofE ofS ofM
    rw [hno]
    refine (qof_out s h1 ao n cap w).mono ?_
    rintro e w' ⟨rfl, rfl⟩
    exact ⟨_, rfl, _, HasF.none _, fun _ h => h.elim, Far.refl _ _⟩
  · obtain ⟨t, rfl⟩ : ∃ t : Nat, s = (t : Int) := ⟨s.toNat, by omega⟩
    have hsd : sideOK (t : Int) = true := decide_eq_true (by omega)
    by_cases h2 : (List.range n).all (cellOK t R C) = true
    · have hok : okC t n R C = true := by unfold okC; rw [hsd, h2]; rfl
      have hcs := (okC_iff.1 hok).2
      unfold ofE ofS ofM
      rw [if_pos hok, if_pos hok, if_pos hok, Int.toNat_natCast]
      refine (qof_yes t (by omega) (by omega) ao n cap _ _ hn (fun k hk => ?_) w (hC.nat fun k hk => ⟨(hcs k hk).1, (hcs k hk).2.2.1⟩)).mono ?_
      · have := hcs k hk; omega
      · rintro e w' ⟨B, rfl, F, hX, hlo, hf⟩
        exact ⟨_, rfl, F, .inr ⟨B, rfl, hX⟩, hlo, hf⟩
    · have hno : okC t n R C = false := by unfold okC; rw [hsd]; simpa using h2
      obtain ⟨q, hq, hb, hbq⟩ := first_bad h2
      unfold ofE ofS ofM
      rw [hno]
      refine (qof_bad t (by omega) (by omega) ao n cap R C hn q hq hb hbq w hC).mono ?_
      rintro e w' ⟨rfl, hf⟩
      exact ⟨_, rfl, _, HasF.none _, fun _ h => h.elim, hf⟩
theorem ofM_within {s : Int} {n : Nat} {R C : Nat → Int} : ∀ r c, ofM s n R C r c = true → r < ofS s n R C ∧ c < ofS s n R C := fun r c h => by
  unfold ofM at h
  unfold ofS
  split at h
  · rename_i hok
    rw [if_pos hok]
    obtain ⟨h1, h2⟩ := okC_iff.1 hok
    obtain ⟨q, hq, rfl, rfl⟩ := putL_iff.1 h
    have := h2 q hq
    omega
  · cases h
theorem ofS_le {s : Int} {n : Nat} {R C : Nat → Int} : ofS s n R C ≤ 1024 := by
  unfold ofS
  split
  · rename_i hok
    have := okC_iff.1 hok
    omega
  · omega
end
end Go.Proofs.YtjolkhiggcmoiaaGreatDoor
