/-
  The program's Without of what may not be.
-/
import Derived.Test.YtjkfieilaahejaaWithout13
namespace Go.Proofs.Ytjkfieilaahejaa
open Go.RowKit
set_option linter.unusedVariables false
set_option linter.unusedSimpArgs false
section
set_option maxHeartbeats 8000000
set_option maxRecDepth 100000
theorem without_no (S : Int) (pv : Value) (T : List Tr) (w : World) (hP : Prods w pv T) (hs : T.length ≤ maxLen) (hs2 : ∀ t ∈ T, t.2.2.length ≤ maxLen) (hok : ¬ CnfOK S T) :
    Calls Try.prog 8 #[.agg #[.int .i64 S, pv]] w fun e w' => Far (fun _ => False) w w' ∧ e = .returned (.tuple #[.agg #[.int .i64 0, .slice none 0 0], .int .i64 220]) := by
  obtain ⟨ao, ac, rfl⟩ := Src.form hP.1
  obtain ⟨h0, hh0⟩ : ∃ h, h = w.heap.size := ⟨_, rfl⟩
  obtain ⟨kR, hkR⟩ : ∃ k, k = h0 + 1 := ⟨_, rfl⟩
  obtain ⟨w0, hw0⟩ : ∃ w0, w0 = (w.alloc (.cells #[.int .i64 S, .slice ao T.length ac] 24)).alloc (.cells #[.int .i64 0, .slice none 0 0] 24) := ⟨_, rfl⟩
  have hA0 : Bk w0 h0 24 #[.int .i64 S, .slice ao T.length ac] := hw0 ▸ (Bk.new hh0).alloc _
  have hR0 : Bk w0 kR 24 #[.int .i64 0, .slice none 0 0] := hw0 ▸ Bk.new (by simp [hkR, hh0])
  have hF0 : Far (fun _ => False) w w0 := hw0 ▸ ((Far.refl _ w).alloc _).alloc _
  have LE := Lib.hid (leastE_no S (.slice ao T.length ac) T w0 (hP.move hF0) hs hs2 hok)
  have q0 : w0.cell? ⟨h0, 0, none⟩ = some (.int .i64 S) := hA0.cell 0
  have q1 : w0.cell? ⟨h0, 1, none⟩ = some (.slice ao T.length ac) := hA0.cell 1
  have hR := Lib.hid hR0
  have hF := Lib.hid hF0
  have hh0' := Lib.hid hh0
  have hkR' := Lib.hid hkR
  have hw0' := Lib.hid hw0
  clear hP hs2 hok hA0 hR0 hF0 hh0 hkR hw0
  refine (callsIn_wide (n := 10)).1 (callsIn_of_wp_marks Try.func8 rfl trivial (wpIn_wide.2 ?_) rfl)
  simp only [Try.ntmps8, List.size_toArray, List.length_cons, List.length_nil, Nat.reduceAdd, Nat.reduceSub, Array.replicate_succ, Array.replicate_zero, List.push_toArray, List.append_toArray, List.nil_append, List.cons_append]
  go_upto_region 1 with fail
  rw [← hh0'.out, ← hkR'.out, ← hw0'.out]
  go_wp2_with (go_at_call 11; refine LE.out.mono ?_; rintro e w2 ⟨hf1, rfl⟩; have hf2' := Lib.hid hf1; have hR2' := Lib.hid (hR.out.far' hf1 id); have r0 : w2.cell? ⟨kR, 0, none⟩ = some (.int .i64 0) := hR2'.out.cell 0; have r1 : w2.cell? ⟨kR, 1, none⟩ = some (.slice none 0 0) := hR2'.out.cell 1; have f0 : w2.frozen? ⟨kR, 0, none⟩ = false := hR2'.out.free 0; have f1 : w2.frozen? ⟨kR, 1, none⟩ = false := hR2'.out.free 1; clear hf1 q0 q1)
  obtain ⟨V, hV⟩ : ∃ V, V = (w2.setCell ⟨kR, 0, none⟩ (.int .i64 0)).setCell ⟨kR, 1, none⟩ (.slice none 0 0) := ⟨_, rfl⟩
  rw [← hV]
  have hbk : Bk V kR 24 #[.int .i64 0, .slice none 0 0] := hV ▸ (hR2'.out.set 0 (.int .i64 0)).set 1 (.slice none 0 0)
  have x0 : V.cell? ⟨kR, 0, none⟩ = some (.int .i64 0) := hbk.cell 0
  have x1 : V.cell? ⟨kR, 1, none⟩ = some (.slice none 0 0) := hbk.cell 1
  have hfv : Far (fun k => k = kR) w2 V := hV ▸ ((Far.refl (fun k => k = kR) w2).set ⟨kR, 0, none⟩ (.int .i64 0) (fun _ => rfl)).set ⟨kR, 1, none⟩ (.slice none 0 0) (fun _ => rfl)
  refine ⟨.tuple #[.agg #[.int .i64 0, .slice none 0 0], .int .i64 220], by simp [results, Try.f8, go_sem, x0, x1], ?_⟩
  exact ⟨(hF.out.then hf2'.out).out hfv (fun k hk e => by have := hkR'.out; have := hh0'.out; omega), rfl⟩
end
end Go.Proofs.Ytjkfieilaahejaa
