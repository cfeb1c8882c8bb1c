/-
  CfgTwice walked.
-/
import Derived.Test.YtfgoghmhjbhbiaaSortMath
namespace Go.Proofs.Ytfgoghmhjbhbiaa
open Go.RowKit
set_option linter.unusedVariables false
set_option linter.unusedSimpArgs false
theorem turn_bad (S : Int) (pv : Value) (T : List Tr) (w : World) (hP : Prods w pv T) (hf : Fits T) (hn : ¬ CnfOK S T) :
    Calls Try.prog 11 #[.agg #[.int .i64 S, pv]] w fun e w' => e = .returned (.tuple #[.agg #[.int .i64 0, .slice none 0 0], .int .i64 220]) ∧ Far (fun _ => False) w w' := by
  refine (cturn_any S pv T w hP hf.1.1 hf.1.2).mono ?_
  rintro e w' ⟨⟨_, rfl⟩ | ⟨hy, _⟩, hw⟩
  · exact ⟨rfl, hw⟩
  · exact absurd hy hn
theorem sort_bad (S : Int) (pv : Value) (T : List Tr) (w : World) (hP : Prods w pv T) (hf : Fits T) (hn : ¬ CnfOK S T) :
    Calls Try.prog 10 #[.agg #[.int .i64 S, pv]] w fun e w' => e = .returned (.tuple #[.agg #[.int .i64 0, .slice none 0 0], .int .i64 220]) ∧ Far (fun _ => False) w w' := by
  refine (csort_any S pv T w hP hf.1.1 hf.1.2).mono ?_
  rintro e w' ⟨⟨_, rfl⟩ | ⟨hy, _⟩, hw⟩
  · exact ⟨rfl, hw⟩
  · exact absurd hy hn
theorem turn_ok (S : Int) (pv : Value) (T : List Tr) (w : World) (hP : Prods w pv T) (hf : Fits T) (hy : CnfOK S T) :
    Calls Try.prog 11 #[.agg #[.int .i64 S, pv]] w fun e w' => (∃ T' ao c, e = .returned (.tuple #[.agg #[.int .i64 S, .slice ao T'.length c], .int .i64 0]) ∧ Prods w' (.slice ao T'.length c) T' ∧ T'.map pl = T.map (fun t => (t.1, t.2.2.reverse)) ∧ Fits T' ∧ CnfOK S T') ∧ Far (fun _ => False) w w' := by
  refine (cturn_any S pv T w hP hf.1.1 hf.1.2).mono ?_
  rintro e w' ⟨⟨hn, _⟩ | ⟨_, pv', T', rfl, hp, hm⟩, hw⟩
  · exact absurd hy hn
  · obtain ⟨ao, c, rfl⟩ := Src.form hp.1
    refine ⟨⟨T', ao, c, rfl, hp, hm, ?_, ?_⟩, hw⟩
    · refine fits_le ?_ (fun t ht => ?_) hf
      · have := congrArg List.length hm; simp only [List.length_map] at this; omega
      · obtain ⟨u, hu, e1, e2⟩ := mem_rev hm ht
        exact ⟨u, hu, by rw [e2, List.length_reverse]⟩
    · refine ok_le (fun t ht => ?_) hy
      obtain ⟨u, hu, e1, e2⟩ := mem_rev hm ht
      exact ⟨u, hu, e1, fun s hs => by rw [e2] at hs; exact List.mem_reverse.1 hs⟩
theorem sort_ok (S : Int) (pv : Value) (T : List Tr) (w : World) (hP : Prods w pv T) (hf : Fits T) (hy : CnfOK S T) :
    Calls Try.prog 10 #[.agg #[.int .i64 S, pv]] w fun e w' => (∃ R ao c, e = .returned (.tuple #[.agg #[.int .i64 S, .slice ao R.length c], .int .i64 0]) ∧ Prods w' (.slice ao R.length c) R ∧ (Up (R.map pl) ∧ (∀ x, x ∈ R.map pl ↔ x ∈ T.map pl) ∧ R.length ≤ T.length) ∧ Fits R ∧ CnfOK S R) ∧ Far (fun _ => False) w w' := by
  refine (csort_any S pv T w hP hf.1.1 hf.1.2).mono ?_
  rintro e w' ⟨⟨hn, _⟩ | ⟨_, pv', T1, T2, rfl, hm, hso, hp⟩, hw⟩
  · exact absurd hy hn
  · obtain ⟨c1, c2, c3⟩ := canon hso
    have hl : T1.length = T.length := by have := congrArg List.length hm; simpa only [List.length_map] using this
    rw [hm] at c2
    rw [hl] at c3
    generalize dd T2 T2.length = R at *
    obtain ⟨ao, c, rfl⟩ := Src.form hp.1
    refine ⟨⟨R, ao, c, rfl, hp, ⟨c1, c2, c3⟩, ?_, ?_⟩, hw⟩
    · exact fits_le c3 (fun t ht => by obtain ⟨u, hu, e1, e2⟩ := mem_of_pl (fun x hx => (c2 x).1 hx) ht; exact ⟨u, hu, by rw [e2]⟩) hf
    · exact ok_le (fun t ht => by obtain ⟨u, hu, e1, e2⟩ := mem_of_pl (fun x hx => (c2 x).1 hx) ht; exact ⟨u, hu, e1, fun s hs => by rw [e2]; exact hs⟩) hy
section
set_option maxHeartbeats 4000000
set_option maxRecDepth 100000
theorem twice_no (S : Int) (pv : Value) (T : List Tr) (w : World) (hP : Prods w pv T) (hfi : Fits T) (hn : ¬ CnfOK S T) :
    Calls Try.prog 6 #[.agg #[.int .i64 S, pv]] w fun e w' => e = .returned (.bool true) ∧ Far (fun _ => False) w w' := by
  obtain ⟨h, hh⟩ : ∃ h, h = w.heap.size := ⟨_, rfl⟩
  obtain ⟨ao, pc, rfl⟩ := Src.form hP.1
  obtain ⟨w1, hw1⟩ : ∃ w1, w1 = w.alloc (.cells #[.int .i64 S, .slice ao T.length pc] 24) := ⟨_, rfl⟩
  have hA : Bk w1 h 24 #[.int .i64 S, .slice ao T.length pc] := hw1 ▸ Bk.new hh
  have hF : Far (fun _ => False) w w1 := hw1 ▸ (Far.refl _ w).alloc _
  have a0 : w1.cell? ⟨h, 0, none⟩ = some (.int .i64 S) := hA.cell 0
  have a1 : w1.cell? ⟨h, 1, none⟩ = some (.slice ao T.length pc) := hA.cell 1
  have hz : ¬ CnfOK 0 [] := fun h => by have := h.1.1; omega
  have hz2 : ∀ w' : World, Prods w' (.slice none 0 0) [] := fun w' => ⟨Src.nil _ _, fun t ht => by cases ht⟩
  have hz3 : Fits [] := fits_of (by simp) (fun t ht => by cases ht)
  have CP := Lib.hid (fun w' (hf : Far (fun _ => False) w1 w') => copy_any S (.slice ao T.length pc) T w' ((hP.move hF).move hf) hfi.1.1 hfi.1.2)
  have CK := Lib.hid (fun w' (hf : Far (fun _ => False) w1 w') => check_any S (.slice ao T.length pc) T w' ((hP.move hF).move hf) hfi.2.1 hfi.2.2)
  have CS := Lib.hid (fun pv' T' w' (hp : Prods w' pv' T') (h : T'.map pl = T.map pl) => sort_bad S pv' T' w' hp (fits_pl h hfi) (fun h' => hn (ok_pl h.symm h')))
  have CT := Lib.hid (fun pv' T' w' (hp : Prods w' pv' T') (h : T'.map pl = T.map pl) => turn_bad S pv' T' w' hp (fits_pl h hfi) (fun h' => hn (ok_pl h.symm h')))
  have ZS := Lib.hid (fun w' => sort_bad 0 (.slice none 0 0) [] w' (hz2 w') hz3 hz)
  have ZT := Lib.hid (fun w' => turn_bad 0 (.slice none 0 0) [] w' (hz2 w') hz3 hz)
  rw [pcode_no hn] at CK
  have hh' := Lib.hid hh
  have hw1' := Lib.hid hw1
  have hF' := Lib.hid hF
  have hA' := Lib.hid hA
  have C1 := CP.out w1 (Far.refl _ _)
  clear hP hfi hn hh hw1 hF hA hz hz2 hz3
  go_enter Try.func6, Try.ntmps6
  go_upto_region 1 with fail
  rw [← hh'.out, ← hw1'.out]
  go_wp2_with fail
  refine C1.mono ?_
  rintro e w2 ⟨pv2, T2, rfl, ho2, hpl2, hf2⟩
  have K2 := CT.out pv2 T2 w2 ho2.prods hpl2
  have hf2' := Lib.hid hf2
  clear C1 a0 a1 ho2 hpl2 hf2
  go_wp2_with fail
  refine K2.mono ?_
  rintro e w3 ⟨rfl, hf3⟩
  have hf3' := Lib.hid (hf2'.out.then hf3)
  clear K2 hf3
  go_upto_region 2 with fail
  obtain ⟨k3, hk3⟩ : ∃ k, k = w3.heap.size := ⟨_, rfl⟩
  obtain ⟨w4, hw4⟩ : ∃ w4, w4 = w3.alloc (.cells #[.int .i64 0, .slice none 0 0] 24) := ⟨_, rfl⟩
  rw [← hk3, ← hw4]
  have hB : Bk w4 k3 24 #[.int .i64 0, .slice none 0 0] := hw4 ▸ Bk.new hk3
  have hf4' := Lib.hid (hf3'.out.then (hw4 ▸ (Far.refl _ w3).alloc _ : Far (fun _ => False) w3 w4))
  have C4 := ZT.out w4
  have b0 : w4.cell? ⟨k3, 0, none⟩ = some (.int .i64 0) := hB.cell 0
  have b1 : w4.cell? ⟨k3, 1, none⟩ = some (.slice none 0 0) := hB.cell 1
  clear hw4 hB hk3
  go_wp2_with fail
  refine C4.mono ?_
  rintro e w5 ⟨rfl, hf5⟩
  have hf5' := Lib.hid (hf4'.out.then hf5)
  clear C4 hf5 b0 b1
  go_upto_region 3 with fail
  obtain ⟨w6, hw6⟩ : ∃ w6, w6 = w5.alloc (.cells #[.int .i64 0, .slice none 0 0] 24) := ⟨_, rfl⟩
  rw [← hw6]
  have hf6' := Lib.hid (hf5'.out.then (hw6 ▸ (Far.refl _ w5).alloc _ : Far (fun _ => False) w5 w6))
  have C6 := CP.out w6 hf6'.out
  have a0 : w6.cell? ⟨h, 0, none⟩ = some (.int .i64 S) := (hA'.out.far' hf6'.out id).cell 0
  have a1 : w6.cell? ⟨h, 1, none⟩ = some (.slice ao T.length pc) := (hA'.out.far' hf6'.out id).cell 1
  clear hw6
  go_wp2_with fail
  refine C6.mono ?_
  rintro e w7 ⟨pv7, T7, rfl, ho7, hpl7, hf7⟩
  have S7 := CS.out pv7 T7 w7 ho7.prods hpl7
  have hf7' := Lib.hid (hf6'.out.then hf7)
  clear C6 a0 a1 ho7 hpl7 hf7
  go_wp2_with fail
  refine S7.mono ?_
  rintro e w8 ⟨rfl, hf8⟩
  have hf8' := Lib.hid (hf7'.out.then hf8)
  clear S7 hf8
  go_upto_region 4 with fail
  obtain ⟨k8, hk8⟩ : ∃ k, k = w8.heap.size := ⟨_, rfl⟩
  obtain ⟨w9, hw9⟩ : ∃ w9, w9 = w8.alloc (.cells #[.int .i64 0, .slice none 0 0] 24) := ⟨_, rfl⟩
  rw [← hk8, ← hw9]
  have hB : Bk w9 k8 24 #[.int .i64 0, .slice none 0 0] := hw9 ▸ Bk.new hk8
  have hf9' := Lib.hid (hf8'.out.then (hw9 ▸ (Far.refl _ w8).alloc _ : Far (fun _ => False) w8 w9))
  have C9 := ZS.out w9
  have b0 : w9.cell? ⟨k8, 0, none⟩ = some (.int .i64 0) := hB.cell 0
  have b1 : w9.cell? ⟨k8, 1, none⟩ = some (.slice none 0 0) := hB.cell 1
  clear hw9 hB hk8
  go_wp2_with fail
  refine C9.mono ?_
  rintro e w10 ⟨rfl, hf10⟩
  have hf10' := Lib.hid (hf9'.out.then hf10)
  clear C9 hf10 b0 b1
  go_upto_region 5 with fail
  obtain ⟨w11, hw11⟩ : ∃ w11, w11 = w10.alloc (.cells #[.int .i64 0, .slice none 0 0] 24) := ⟨_, rfl⟩
  rw [← hw11]
  have hf11' := Lib.hid (hf10'.out.then (hw11 ▸ (Far.refl _ w10).alloc _ : Far (fun _ => False) w10 w11))
  clear hw11
  go_wp2_with fail
  refine (head12_any _).mono ?_
  rintro e w12 ⟨rfl, hf12⟩
  have hf12' := Lib.hid (hf11'.out.then hf12)
  have C12 := CK.out w12 hf12'.out
  have a0 : w12.cell? ⟨h, 0, none⟩ = some (.int .i64 S) := (hA'.out.far' hf12'.out id).cell 0
  have a1 : w12.cell? ⟨h, 1, none⟩ = some (.slice ao T.length pc) := (hA'.out.far' hf12'.out id).cell 1
  clear hf12
  go_wp2_with fail
  refine C12.mono ?_
  rintro e w13 ⟨rfl, hf13⟩
  have hf13' := Lib.hid (hf12'.out.then hf13)
  clear C12 a0 a1 hf13
  go_wp2_with fail
  go_ret
  exact ⟨rfl, hF'.out.then hf13'.out⟩
end
end Go.Proofs.Ytfgoghmhjbhbiaa
