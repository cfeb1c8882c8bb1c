/-
  Used, both ways: the program's.
-/
import Derived.Test.YtbckikcfcclioaaUsedFn13
namespace Go.Proofs.Ytbckikcfcclioaa
open Go.RowKit
set_option linter.unusedVariables false
set_option linter.unusedSimpArgs false
section
set_option maxHeartbeats 4000000
set_option maxRecDepth 100000
theorem checkFrom_no (S : Int) (pv : Value) (T : List Tr) (fo : Option Addr) (n fc : Nat) (w : World) (hP : Prods w pv T) (hs : T.length ≤ maxLen) (hs2 : ∀ t ∈ T, t.2.2.length ≤ maxLen) (hok : ¬ CnfOK S T) :
    Calls Try.prog 31 #[.agg #[.int .i64 S, pv], .slice fo n fc] w fun e w' => Far (fun _ => False) w w' ∧ e = .returned (.int .i64 220) := by
  obtain ⟨h0, hh0⟩ : ∃ h, h = w.heap.size := ⟨_, rfl⟩
  obtain ⟨ao, ac, rfl⟩ := Src.form hP.1
  obtain ⟨w1, hw1⟩ : ∃ w1, w1 = w.alloc (.cells #[.int .i64 S, .slice ao T.length ac] 24) := ⟨_, rfl⟩
  have hF1 : Far (fun _ => False) w w1 := hw1 ▸ alloc_far0 _ _
  have hX : Bk w1 h0 24 #[.int .i64 S, .slice ao T.length ac] := hw1 ▸ Bk.new hh0
  have a0 : w1.cell? ⟨h0, 0, none⟩ = some (.int .i64 S) := hX.cell 0
  have a1 : w1.cell? ⟨h0, 1, none⟩ = some (.slice ao T.length ac) := hX.cell 1
  have CK := check_any S (.slice ao T.length ac) T w1 (hP.move hF1) hs hs2
  rw [pcode_no hok] at CK
  have hF1' := Lib.hid hF1
  have hw1' := Lib.hid hw1
  have hh0' := Lib.hid hh0
  clear hP hs2 hok hX hF1 hw1 hh0 hs
  go_enter Try.func31, Try.ntmps31
  go_upto_region 1 with fail
  rw [← hh0'.out, ← hw1'.out]
  go_wp2_with fail
  refine CK.mono ?_
  rintro e w2 ⟨rfl, hf2⟩
  have hF2 := Lib.hid (hF1'.out.then hf2)
  clear CK hf2 a0 a1
  go_wp2_with fail
  go_ret
  exact ⟨hF2.out, rfl⟩
theorem usedF_no (S : Int) (pv : Value) (T : List Tr) (fo : Option Addr) (n fc : Nat) (w : World) (hP : Prods w pv T) (hs : T.length ≤ maxLen) (hs2 : ∀ t ∈ T, t.2.2.length ≤ maxLen) (hok : ¬ CnfOK S T) :
    Calls Try.prog 13 #[.agg #[.int .i64 S, pv], .slice fo n fc] w fun e w' => Far (fun _ => False) w w' ∧ e = .returned (.tuple #[.slice none 0 0, .int .i64 220]) := by
  obtain ⟨h0, hh0⟩ : ∃ h, h = w.heap.size := ⟨_, rfl⟩
  obtain ⟨ao, ac, rfl⟩ := Src.form hP.1
  obtain ⟨w1, hw1⟩ : ∃ w1, w1 = w.alloc (.cells #[.int .i64 S, .slice ao T.length ac] 24) := ⟨_, rfl⟩
  have hF1 : Far (fun _ => False) w w1 := hw1 ▸ alloc_far0 _ _
  have hX : Bk w1 h0 24 #[.int .i64 S, .slice ao T.length ac] := hw1 ▸ Bk.new hh0
  have a0 : w1.cell? ⟨h0, 0, none⟩ = some (.int .i64 S) := hX.cell 0
  have a1 : w1.cell? ⟨h0, 1, none⟩ = some (.slice ao T.length ac) := hX.cell 1
  have CK := checkFrom_no S (.slice ao T.length ac) T fo n fc w1 (hP.move hF1) hs hs2 hok
  have hF1' := Lib.hid hF1
  have hw1' := Lib.hid hw1
  have hh0' := Lib.hid hh0
  clear hP hs2 hok hX hF1 hw1 hh0 hs
  go_enter Try.func13, Try.ntmps13
  go_upto_region 1 with fail
  rw [← hh0'.out, ← hw1'.out]
  go_wp2_with fail
  refine CK.mono ?_
  rintro e w2 ⟨hf2, rfl⟩
  have hF2 := Lib.hid (hF1'.out.then hf2)
  clear CK hf2 a0 a1
  go_wp2_with fail
  exact bodyPost_ret (v := .tuple #[.slice none 0 0, .int .i64 220]) (by simp [results, Try.f13, go_sem]) rfl ⟨hF2.out, rfl⟩
theorem usedF_yes (S : Nat) (pv : Value) (T : List Tr) (fo : Option Addr) (n fc : Nat) (f : Nat → Int) (w : World) (hP : Prods w pv T) (hs : T.length ≤ 4398046510976) (hs2 : ∀ t ∈ T, t.2.2.length ≤ maxLen) (hok : CnfOK (S : Int) T) (hI : Ints w fo n f) (hn : n ≤ maxLen) :
    Calls Try.prog 13 #[.agg #[.int .i64 (S : Int), pv], .slice fo n fc] w fun e w' => Far (fun _ => False) w w' ∧ ((¬ FromOK S n f ∧ e = .returned (.tuple #[.slice none 0 0, .int .i64 2])) ∨ (FromOK S n f ∧ ∃ gO U, e = .returned (.tuple #[.slice (some ⟨gO, 0, none⟩) S S, .int .i64 0]) ∧ BRow w' gO S U ∧ ClosedU T U ∧ (∀ j, FromIn n f j → U j = true) ∧ LeastU T (FromIn n f) U)) := by
  obtain ⟨h0, hh0⟩ : ∃ h, h = w.heap.size := ⟨_, rfl⟩
  obtain ⟨ao, ac, rfl⟩ := Src.form hP.1
  obtain ⟨w1, hw1⟩ : ∃ w1, w1 = w.alloc (.cells #[.int .i64 (S : Int), .slice ao T.length ac] 24) := ⟨_, rfl⟩
  have hF1 : Far (fun _ => False) w w1 := hw1 ▸ alloc_far0 _ _
  have hX : Bk w1 h0 24 #[.int .i64 (S : Int), .slice ao T.length ac] := hw1 ▸ Bk.new hh0
  have a0 : w1.cell? ⟨h0, 0, none⟩ = some (.int .i64 (S : Int)) := hX.cell 0
  have a1 : w1.cell? ⟨h0, 1, none⟩ = some (.slice ao T.length ac) := hX.cell 1
  have CK := checkFrom_any S (.slice ao T.length ac) T fo n fc f w1 (hP.move hF1) hs hs2 hok (hI.move hF1) hn
  have US := Lib.hid (fun w' (hf : Far (fun _ => False) w1 w') (hfr : FromOK S n f) => used_any S (.slice ao T.length ac) T fo n fc f w' ((hP.move hF1).move hf) hs hs2 hok ((hI.move hF1).move hf) hn hfr)
  have HK := Lib.hid (fun w' (hf : Far (fun _ => False) w1 w') => (show w'.cell? ⟨h0, 0, none⟩ = some (.int .i64 (S : Int)) ∧ w'.cell? ⟨h0, 1, none⟩ = some (.slice ao T.length ac) from ⟨(hX.far' hf id).cell 0, (hX.far' hf id).cell 1⟩))
  have hF1' := Lib.hid hF1
  have hw1' := Lib.hid hw1
  have hh0' := Lib.hid hh0
  clear hP hs2 hok hX hF1 hw1 hh0 hs hI
  go_enter Try.func13, Try.ntmps13
  go_upto_region 1 with fail
  rw [← hh0'.out, ← hw1'.out]
  go_wp2_with fail
  refine CK.mono ?_
  rintro e w2 ⟨hf2, hcase⟩
  have hF2 := Lib.hid (hF1'.out.then hf2)
  have hf2' := Lib.hid hf2
  clear CK hf2 a0 a1
  rcases hcase with ⟨rfl, hfr⟩ | ⟨rfl, hfr⟩
  · obtain ⟨a0, a1⟩ := HK.out w2 hf2'.out
    have U2 := US.out w2 hf2'.out hfr
    have hfr' := Lib.hid hfr
    clear hfr
    go_wp2_with fail
    refine U2.mono ?_
    rintro e w3 ⟨hf3, gO, U, rfl, h5⟩
    have hF3 := Lib.hid (hF2.out.then hf3)
    have h5' := Lib.hid h5
    clear U2 hf3 h5 a0 a1
    go_wp2_with fail
    exact bodyPost_ret (v := .tuple #[.slice (some ⟨gO, 0, none⟩) S S, .int .i64 0]) (by simp [results, Try.f13, go_sem]) rfl ⟨hF3.out, .inr ⟨hfr'.out, gO, U, rfl, h5'.out.2⟩⟩
  · have hfr' := Lib.hid hfr
    clear hfr
    go_wp2_with fail
    exact bodyPost_ret (v := .tuple #[.slice none 0 0, .int .i64 2]) (by simp [results, Try.f13, go_sem]) rfl ⟨hF2.out, .inl ⟨hfr'.out, rfl⟩⟩
end
end Go.Proofs.Ytbckikcfcclioaa
