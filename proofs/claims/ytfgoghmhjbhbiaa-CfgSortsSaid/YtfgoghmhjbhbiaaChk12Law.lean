/-
  CfgChecks walked.
-/
import Derived.Test.YtfgoghmhjbhbiaaHead12
import Derived.Test.YtfgoghmhjbhbiaaRefCheckC
namespace Go.Proofs.Ytfgoghmhjbhbiaa
open Go.RowKit
set_option linter.unusedVariables false
set_option linter.unusedSimpArgs false
theorem ok_pl {S : Int} {T T' : List Tr} (h : T'.map pl = T.map pl) (hw : CnfOK S T) : CnfOK S T' := by
  refine ⟨hw.1, fun t ht => ?_⟩
  have : pl t ∈ T.map pl := by rw [← h]; exact List.mem_map_of_mem ht
  obtain ⟨u, hu, e⟩ := List.mem_map.1 this
  have h1 : u.1 = t.1 := show (pl u).1 = (pl t).1 by rw [e]
  have h2 : u.2.2 = t.2.2 := show (pl u).2 = (pl t).2 by rw [e]
  have := hw.2 u hu
  unfold prodOK at *
  rwa [h1, h2] at this
theorem pcode_pl {S : Int} {T T' : List Tr} (h : T'.map pl = T.map pl) : pcode (CnfOK S T') = pcode (CnfOK S T) := by
  by_cases hw : CnfOK S T
  · rw [pcode_yes hw, pcode_yes (ok_pl h hw)]
  · rw [pcode_no hw, pcode_no fun h' => hw (ok_pl h.symm h')]
/-- The bounds of productions, of their copies too. -/
def Fits (T : List Tr) : Prop := (T.length * 32 ≤ 140737488351232 ∧ ∀ t ∈ T, t.2.2.length * 16 ≤ 140737488351232) ∧ T.length ≤ maxLen ∧ ∀ t ∈ T, t.2.2.length ≤ maxLen
theorem fits_of {T : List Tr} (hs : T.length * 32 ≤ 140737488351232) (hs2 : ∀ t ∈ T, t.2.2.length * 16 ≤ 140737488351232) : Fits T :=
  ⟨⟨hs, hs2⟩, by unfold maxLen; omega, fun t ht => by have := hs2 t ht; unfold maxLen; omega⟩
theorem fits_pl {T T' : List Tr} (h : T'.map pl = T.map pl) (hf : Fits T) : Fits T' := by
  refine fits_of ?_ fun t ht => ?_
  · have := congrArg List.length h; simp only [List.length_map] at this; rw [this]; exact hf.1.1
  · have : pl t ∈ T.map pl := by rw [← h]; exact List.mem_map_of_mem ht
    obtain ⟨u, hu, e⟩ := List.mem_map.1 this
    have h2 : u.2.2 = t.2.2 := show (pl u).2 = (pl t).2 by rw [e]
    rw [← h2]; exact hf.1.2 u hu
/-- What Sort and Turn say of a list that is the same. -/
theorem csort_code (S : Int) (pv : Value) (T T' : List Tr) (w : World) (hP : Prods w pv T') (h : T'.map pl = T.map pl) (hf : Fits T) :
    Calls Try.prog 10 #[.agg #[.int .i64 S, pv]] w fun e w' => (∃ X ao n c, e = .returned (.tuple #[.agg #[.int .i64 X, .slice ao n c], .int .i64 (pcode (CnfOK S T))])) ∧ Far (fun _ => False) w w' := by
  have F' := fits_pl h hf
  refine (csort_any S pv T' w hP F'.1.1 F'.1.2).mono ?_
  rintro e w' ⟨hr, hw⟩
  refine ⟨?_, hw⟩
  rcases hr with ⟨hn, rfl⟩ | ⟨hy, pv', T1, T2, rfl, _, _, hp⟩
  · rw [← pcode_pl h, pcode_no hn]; exact ⟨_, _, _, _, rfl⟩
  · obtain ⟨ao, c, rfl⟩ := Src.form hp.1
    rw [← pcode_pl h, pcode_yes hy]; exact ⟨_, _, _, _, rfl⟩
theorem cturn_code (S : Int) (pv : Value) (T T' : List Tr) (w : World) (hP : Prods w pv T') (h : T'.map pl = T.map pl) (hf : Fits T) :
    Calls Try.prog 11 #[.agg #[.int .i64 S, pv]] w fun e w' => (∃ X ao n c, e = .returned (.tuple #[.agg #[.int .i64 X, .slice ao n c], .int .i64 (pcode (CnfOK S T))])) ∧ Far (fun _ => False) w w' := by
  have F' := fits_pl h hf
  refine (cturn_any S pv T' w hP F'.1.1 F'.1.2).mono ?_
  rintro e w' ⟨hr, hw⟩
  refine ⟨?_, hw⟩
  rcases hr with ⟨hn, rfl⟩ | ⟨hy, pv', T1, rfl, hp, _⟩
  · rw [← pcode_pl h, pcode_no hn]; exact ⟨_, _, _, _, rfl⟩
  · obtain ⟨ao, c, rfl⟩ := Src.form hp.1
    rw [← pcode_pl h, pcode_yes hy]; exact ⟨_, _, _, _, rfl⟩
section
set_option maxHeartbeats 4000000
set_option maxRecDepth 100000
theorem chk12_law (S : Int) (pv : Value) (T : List Tr) (w : World) (hP : Prods w pv T) (hs : T.length * 32 ≤ 140737488351232) (hs2 : ∀ t ∈ T, t.2.2.length * 16 ≤ 140737488351232) :
    Calls Try.prog 3 #[.agg #[.int .i64 S, pv]] w fun e w' => e = .returned (.bool true) ∧ Far (fun _ => False) w w' := by
  obtain ⟨h, hh⟩ : ∃ h, h = w.heap.size := ⟨_, rfl⟩
  obtain ⟨ao, pc, rfl⟩ := Src.form hP.1
  obtain ⟨w1, hw1⟩ : ∃ w1, w1 = w.alloc (.cells #[.int .i64 S, .slice ao T.length pc] 24) := ⟨_, rfl⟩
  have hA : Bk w1 h 24 #[.int .i64 S, .slice ao T.length pc] := hw1 ▸ Bk.new hh
  have hF : Far (fun _ => False) w w1 := hw1 ▸ (Far.refl _ w).alloc _
  have a0 : w1.cell? ⟨h, 0, none⟩ = some (.int .i64 S) := hA.cell 0
  have a1 : w1.cell? ⟨h, 1, none⟩ = some (.slice ao T.length pc) := hA.cell 1
  obtain ⟨C, hC⟩ : ∃ C, C = pcode (CnfOK S T) := ⟨_, rfl⟩
  have hfit := Lib.hid (fits_of hs hs2)
  have hm : Hid (∀ T' : List Tr, T'.map pl = T.map pl → T'.length ≤ maxLen ∧ ∀ t ∈ T', t.2.2.length ≤ maxLen) := Lib.hid (fun T' h => ⟨(fits_pl h hfit.out).2.1, (fits_pl h hfit.out).2.2⟩)
  have CP := Lib.hid (fun w' (hf : Far (fun _ => False) w1 w') => copy_any S (.slice ao T.length pc) T w' ((hP.move hF).move hf) hs hs2)
  have RC := Lib.hid (fun w' (hf : Far (fun _ => False) w1 w') => rcheck_any S (.slice ao T.length pc) T w' ((hP.move hF).move hf) hfit.out.2.1 hfit.out.2.2)
  have CK := Lib.hid (fun pv' T' w' (hp : Prods w' pv' T') (h : T'.map pl = T.map pl) => check_any S pv' T' w' hp (hm.out _ h).1 (hm.out _ h).2)
  have CS := Lib.hid (fun pv' T' w' (hp : Prods w' pv' T') (h : T'.map pl = T.map pl) => csort_code S pv' T T' w' hp h hfit.out)
  have CT := Lib.hid (fun pv' T' w' (hp : Prods w' pv' T') (h : T'.map pl = T.map pl) => cturn_code S pv' T T' w' hp h hfit.out)
  rw [← hC] at RC CS CT
  have hC' := Lib.hid hC
  have hh' := Lib.hid hh
  have hw1' := Lib.hid hw1
  have hF' := Lib.hid hF
  have hA' := Lib.hid hA
  have C1 := CP.out w1 (Far.refl _ _)
  clear hP hs hs2 hh hw1 hF hA hC
  go_enter Try.func3, Try.ntmps3
  go_upto_region 1 with fail
  rw [← hh'.out, ← hw1'.out]
  go_wp2_with fail
  refine C1.mono ?_
  rintro e w2 ⟨pv2, T2, rfl, ho2, hpl2, hf2⟩
  have K2 := CK.out pv2 T2 w2 ho2.prods hpl2
  rw [pcode_pl hpl2, ← hC'.out] at K2
  have hf2' := Lib.hid hf2
  clear C1 a0 a1 ho2 hpl2 hf2
  go_wp2_with fail
  refine K2.mono ?_
  rintro e w3 ⟨rfl, hf3⟩
  have hf3' := Lib.hid (hf2'.out.then hf3)
  have C3 := CP.out w3 hf3'.out
  have a0 : w3.cell? ⟨h, 0, none⟩ = some (.int .i64 S) := (hA'.out.far' hf3'.out id).cell 0
  have a1 : w3.cell? ⟨h, 1, none⟩ = some (.slice ao T.length pc) := (hA'.out.far' hf3'.out id).cell 1
  clear K2 hf3
  go_wp2_with fail
  refine C3.mono ?_
  rintro e w4 ⟨pv4, T4, rfl, ho4, hpl4, hf4⟩
  have S4 := CS.out pv4 T4 w4 ho4.prods hpl4
  have hf4' := Lib.hid (hf3'.out.then hf4)
  clear C3 a0 a1 ho4 hpl4 hf4
  go_wp2_with fail
  refine S4.mono ?_
  rintro e w5 ⟨⟨X5, ao5, n5, c5, rfl⟩, hf5⟩
  have hf5' := Lib.hid (hf4'.out.then hf5)
  clear S4 hf5
  go_upto_region 3 with fail
  obtain ⟨w6, hw6⟩ : ∃ w6, w6 = w5.alloc (.cells #[.int .i64 X5, .slice ao5 n5 c5] 24) := ⟨_, rfl⟩
  rw [← hw6]
  have hf6' := Lib.hid (hf5'.out.then (hw6 ▸ (Far.refl _ w5).alloc _ : Far (fun _ => False) w5 w6))
  have C6 := CP.out w6 hf6'.out
  have a0 : w6.cell? ⟨h, 0, none⟩ = some (.int .i64 S) := (hA'.out.far' hf6'.out id).cell 0
  have a1 : w6.cell? ⟨h, 1, none⟩ = some (.slice ao T.length pc) := (hA'.out.far' hf6'.out id).cell 1
  clear hw6
  go_wp2_with fail
  refine C6.mono ?_
  rintro e w7 ⟨pv7, T7, rfl, ho7, hpl7, hf7⟩
  have S7 := CT.out pv7 T7 w7 ho7.prods hpl7
  have hf7' := Lib.hid (hf6'.out.then hf7)
  clear C6 a0 a1 ho7 hpl7 hf7
  go_wp2_with fail
  refine S7.mono ?_
  rintro e w8 ⟨⟨X8, ao8, n8, c8, rfl⟩, hf8⟩
  have hf8' := Lib.hid (hf7'.out.then hf8)
  clear S7 hf8
  go_upto_region 4 with fail
  obtain ⟨w9, hw9⟩ : ∃ w9, w9 = w8.alloc (.cells #[.int .i64 X8, .slice ao8 n8 c8] 24) := ⟨_, rfl⟩
  rw [← hw9]
  have hf9' := Lib.hid (hf8'.out.then (hw9 ▸ (Far.refl _ w8).alloc _ : Far (fun _ => False) w8 w9))
  have C9 := RC.out w9 hf9'.out
  have a0 : w9.cell? ⟨h, 0, none⟩ = some (.int .i64 S) := (hA'.out.far' hf9'.out id).cell 0
  have a1 : w9.cell? ⟨h, 1, none⟩ = some (.slice ao T.length pc) := (hA'.out.far' hf9'.out id).cell 1
  clear hw9
  go_wp2_with fail
  refine C9.mono ?_
  rintro e w10 ⟨rfl, hf10⟩
  have hf10' := Lib.hid (hf9'.out.then hf10)
  clear C9 hf10 a0 a1
  go_wp2_with fail
  refine (head12_any _).mono ?_
  rintro e w11 ⟨rfl, hf11⟩
  have hf11' := Lib.hid (hf10'.out.then hf11)
  clear hf11
  go_wp2_with fail
  go_ret
  exact ⟨rfl, hF'.out.then hf11'.out⟩
end
end Go.Proofs.Ytfgoghmhjbhbiaa
