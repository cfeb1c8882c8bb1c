/-
  setOf: the set of some states.
-/
import Derived.Test.YtihlfphokgicbaaDoorSetHas
namespace Go.Proofs.YtihlfphokgicbaaDoor
open Go.RowKit
set_option linter.unusedVariables false
set_option linter.unusedSimpArgs false
theorem Far.out {F : Nat → Prop} {a b c : World} (h : Far (fun _ => False) a b) (k : Far F b c) (hF : ∀ i, i < a.heap.size → ¬ F i) : Far (fun _ => False) a c := h.trans k fun i hi hf => hF i hi hf
theorem Ints.moveF {w w' : World} {ao : Option Addr} {n : Nat} {f : Nat → Int} {F : Nat → Prop} (h : Ints w ao n f) (hf : Far F w w') (hF : ∀ i, i < w.heap.size → ¬ F i) : Ints w' ao n f := h.move (hf.mono fun k hk hFk => hF k hk hFk)
section
set_option maxHeartbeats 2000000
set_option maxRecDepth 100000
theorem setOf_any (ao : Option Addr) (n cap : Nat) (f : Nat → Int) (w : World) (hn : n ≤ maxLen) (hI : Ints w ao n f) (hf : ∀ k, k < n → 0 ≤ f k ∧ f k < 128) :
    Calls Tryd.prog 18 #[.slice ao n cap] w fun e w' => ∃ u v : Nat, e = .returned (.agg #[.int .u64 (u : Int), .int .u64 (v : Int)]) ∧ u < 18446744073709551616 ∧ v < 18446744073709551616 ∧ (∀ p : Nat, memS u v p = true ↔ ∃ k, k < n ∧ f k = (p : Int)) ∧ Far (fun _ => False) w w' := by
  unfold maxLen at hn
  obtain ⟨w1, hw1⟩ : ∃ w1, w1 = (w.alloc (.cells #[.int .u64 0, .int .u64 0] 54)).alloc (.cells #[.int .u64 0, .int .u64 0] 54) := ⟨_, rfl⟩
  have hR : Bk w1 w.heap.size 54 #[.int .u64 0, .int .u64 0] := hw1 ▸ (Bk.new rfl).alloc _
  have hS : Bk w1 (w.heap.size + 1) 54 #[.int .u64 0, .int .u64 0] := hw1 ▸ Bk.new (by simp)
  have hF : Far (fun _ => False) w w1 := hw1 ▸ ((Far.refl _ w).alloc _).alloc _
  have hI' := Lib.hid (hI.move hF)
  have hR' := Lib.hid hR
  have hS' := Lib.hid hS
  have hF' := Lib.hid hF
  have hw1' := Lib.hid hw1
  have hf' := Lib.hid hf
  clear hI hR hS hF hw1 hf
  go_enter Tryd.func18, Tryd.ntmps18
  go_wp2_with fail
  rw [← hw1'.out]
  go_loopw [8] (fun iv wr => ∃ (i u v : Nat), iv = .int .i64 i ∧ i ≤ n ∧ SetB wr (w.heap.size + 1) u v ∧ (∀ p : Nat, memS u v p = true ↔ ∃ k, k < i ∧ f k = (p : Int)) ∧ Far (fun k => k = w.heap.size + 1) w1 wr) (fun iv _ => n - (intOf iv).toNat)
  case atStart => exact ⟨0, 0, 0, rfl, Nat.zero_le _, ⟨hS'.out, by decide, by decide⟩, fun p => by simp [memS], Far.refl _ _⟩
  case round =>
    obtain ⟨i, u, v, rfl, hi, hSB, hmem, hfw⟩ := hrel
    by_cases hlt : i < n
    · have e1 : decide ((i : Int) < (n : Int)) = true := by rw [decide_eq_true_eq]; omega
      have hii : (i : Int) < (n : Int) := by omega
      obtain ⟨gb, off, rfl, hgb, hcs⟩ := hI'.out (by omega)
      have hne : gb ≠ w.heap.size + 1 := fun e => by
        have hc := hcs 0 (by omega)
        rw [e] at hc
        have := hS'.out.cell (off + 0)
        rw [this] at hc
        rcases off with _ | _ | off <;> simp at hc
      have ci : wr.cell? ⟨gb, off + i, none⟩ = some (.int .i64 (f i)) := (cell_eq (hfw.block gb hgb hne)).trans (hcs i hlt)
      obtain ⟨q, hq, hq128⟩ : ∃ q : Nat, f i = (q : Int) ∧ q < 128 := ⟨(f i).toNat, by have := hf'.out i hlt; omega, by have := hf'.out i hlt; omega⟩
      have hq' := Lib.hid hq
      rw [hq] at ci
      have PA := put_any u v q (w.heap.size + 1) hq128 wr hSB
      have hmem' := Lib.hid hmem
      have hfw' := Lib.hid hfw
      clear hcs hq hmem hfw hSB
      go_wp2_with fail
      refine PA.mono ?_
      rintro e w2 ⟨u2, v2, ⟨x, rfl⟩, hSB2, hm2, hf2⟩
      have hSB2' := Lib.hid hSB2
      have hm2' := Lib.hid hm2
      have hf2' := Lib.hid hf2
      clear hSB2 hm2 hf2 PA
      go_wp2_with fail
      go_roundw
      case rel => exact ⟨i + 1, u2, v2, by go_num, by omega, hSB2'.out, fun p => by
        rw [hm2'.out p, Bool.or_eq_true, hmem'.out p, decide_eq_true_eq]
        constructor
        · rintro (⟨k, hk, e⟩ | rfl)
          · exact ⟨k, by omega, e⟩
          · exact ⟨i, by omega, hq'.out⟩
        · rintro ⟨k, hk, e⟩
          by_cases hki : k = i
          · right; subst hki; have := hq'.out; omega
          · exact .inl ⟨k, by omega, e⟩, hfw'.out.trans hf2'.out fun _ _ h => h⟩
      case measure => simp [intOf]; omega
    · have e1 : decide ((i : Int) < (n : Int)) = false := by rw [decide_eq_false_iff_not]; omega
      have hin : i = n := by omega
      obtain ⟨hSr, hu, hv⟩ := hSB
      have s0 : wr.cell? ⟨w.heap.size + 1, 0, none⟩ = some (.int .u64 (u : Int)) := hSr.cell 0
      have s1 : wr.cell? ⟨w.heap.size + 1, 1, none⟩ = some (.int .u64 (v : Int)) := hSr.cell 1
      have hRr := hR'.out.far' hfw (by omega)
      have t0 : wr.frozen? ⟨w.heap.size, 0, none⟩ = false := hRr.free 0
      have t1 : wr.frozen? ⟨w.heap.size, 1, none⟩ = false := hRr.free 1
      have t2 : wr.cell? ⟨w.heap.size, 0, none⟩ = some (.int .u64 0) := hRr.cell 0
      have t3 : wr.cell? ⟨w.heap.size, 1, none⟩ = some (.int .u64 0) := hRr.cell 1
      have hRr' := Lib.hid hRr
      have hmem' := Lib.hid hmem
      have hfw' := Lib.hid hfw
      have hin' := Lib.hid hin
      clear hRr hmem hfw hin hSr
      go_wp2_with fail
      have hb3 : Bk ((wr.setCell ⟨w.heap.size, 0, none⟩ (.int .u64 (u : Int))).setCell ⟨w.heap.size, 1, none⟩ (.int .u64 (v : Int))) w.heap.size 54 #[.int .u64 (u : Int), .int .u64 (v : Int)] := (hRr'.out.set 0 (.int .u64 (u : Int))).set 1 (.int .u64 (v : Int))
      have hF3 : Far (fun _ => False) w ((wr.setCell ⟨w.heap.size, 0, none⟩ (.int .u64 (u : Int))).setCell ⟨w.heap.size, 1, none⟩ (.int .u64 (v : Int))) := ((hF'.out.out hfw'.out (fun i hi e => by omega)).set _ _ (fun h => absurd h (Nat.lt_irrefl _))).set _ _ (fun h => absurd h (Nat.lt_irrefl _))
      clear s0 s1 t0 t1 t2 t3
      generalize ((wr.setCell ⟨w.heap.size, 0, none⟩ (.int .u64 (u : Int))).setCell ⟨w.heap.size, 1, none⟩ (.int .u64 (v : Int))) = W3 at *
      have c0 : W3.cell? ⟨w.heap.size, 0, none⟩ = some (.int .u64 (u : Int)) := hb3.cell 0
      have c1 : W3.cell? ⟨w.heap.size, 1, none⟩ = some (.int .u64 (v : Int)) := hb3.cell 1
      have hm := hmem'.out
      rw [hin'.out] at hm
      exact bodyPost_ret (v := .agg #[.int .u64 (u : Int), .int .u64 (v : Int)]) (by simp [results, Tryd.f18, go_sem, c0, c1]) rfl ⟨u, v, rfl, hu, hv, hm, hF3⟩
end
end Go.Proofs.YtihlfphokgicbaaDoor
