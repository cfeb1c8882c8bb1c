/-
  CfgSorts walked.
-/
import Derived.Test.YtfgoghmhjbhbiaaRefTurnC
namespace Go.Proofs.Ytfgoghmhjbhbiaa
open Go.RowKit
set_option linter.unusedVariables false
set_option linter.unusedSimpArgs false
theorem rev_pl {T T' : List Tr} (h : T'.map pl = T.map pl) : T'.map (fun t => ((t.1, t.2.2.reverse) : Pd)) = T.map (fun t => (t.1, t.2.2.reverse)) := by
  have e : ∀ l : List Tr, l.map (fun t => ((t.1, t.2.2.reverse) : Pd)) = (l.map pl).map (fun p => (p.1, p.2.reverse)) := fun l => by rw [List.map_map]; rfl
  rw [e, e, h]
section
set_option maxHeartbeats 4000000
set_option maxRecDepth 100000
theorem sorts_no (S : Int) (pv : Value) (T : List Tr) (w : World) (hP : Prods w pv T) (hfi : Fits T) (hn : ¬ CnfOK S T) :
    Calls Try.prog 4 #[.agg #[.int .i64 S, pv]] w fun e w' => e = .returned (.bool true) ∧ Far (fun _ => False) w w' := by
  obtain ⟨h, hh⟩ : ∃ h, h = w.heap.size := ⟨_, rfl⟩
  obtain ⟨ao, pc, rfl⟩ := Src.form hP.1
  obtain ⟨w1, hw1⟩ : ∃ w1, w1 = w.alloc (.cells #[.int .i64 S, .slice ao T.length pc] 24) := ⟨_, rfl⟩
  have hA : Bk w1 h 24 #[.int .i64 S, .slice ao T.length pc] := hw1 ▸ Bk.new hh
  have hF : Far (fun _ => False) w w1 := hw1 ▸ (Far.refl _ w).alloc _
  have a0 : w1.cell? ⟨h, 0, none⟩ = some (.int .i64 S) := hA.cell 0
  have a1 : w1.cell? ⟨h, 1, none⟩ = some (.slice ao T.length pc) := hA.cell 1
  have CP := Lib.hid (fun w' (hf : Far (fun _ => False) w1 w') => copy_any S (.slice ao T.length pc) T w' ((hP.move hF).move hf) hfi.1.1 hfi.1.2)
  have CK := Lib.hid (fun w' (hf : Far (fun _ => False) w1 w') => rcheck_any S (.slice ao T.length pc) T w' ((hP.move hF).move hf) hfi.2.1 hfi.2.2)
  have CS := Lib.hid (fun pv' T' w' (hp : Prods w' pv' T') (h : T'.map pl = T.map pl) => sort_bad S pv' T' w' hp (fits_pl h hfi) (fun h' => hn (ok_pl h.symm h')))
  have CT := Lib.hid (fun pv' T' w' (hp : Prods w' pv' T') (h : T'.map pl = T.map pl) => turn_bad S pv' T' w' hp (fits_pl h hfi) (fun h' => hn (ok_pl h.symm h')))
  rw [pcode_no hn] at CK
  have hh' := Lib.hid hh
  have hw1' := Lib.hid hw1
  have hF' := Lib.hid hF
  have hA' := Lib.hid hA
  have C1 := CP.out w1 (Far.refl _ _)
  clear hP hfi hn hh hw1 hF hA
  go_enter Try.func4, Try.ntmps4
  go_upto_region 1 with fail
  rw [← hh'.out, ← hw1'.out]
  go_wp2_with fail
  refine C1.mono ?_
  rintro e w2 ⟨pv2, T2, rfl, ho2, hpl2, hf2⟩
  have K2 := CS.out pv2 T2 w2 ho2.prods hpl2
  have hf2' := Lib.hid hf2
  clear C1 a0 a1 ho2 hpl2 hf2
  go_wp2_with fail
  refine K2.mono ?_
  rintro e w3 ⟨rfl, hf3⟩
  have hf3' := Lib.hid (hf2'.out.then hf3)
  clear K2 hf3
  go_upto_region 2 with fail
  obtain ⟨w4, hw4⟩ : ∃ w4, w4 = w3.alloc (.cells #[.int .i64 0, .slice none 0 0] 24) := ⟨_, rfl⟩
  rw [← hw4]
  have hf4' := Lib.hid (hf3'.out.then (hw4 ▸ (Far.refl _ w3).alloc _ : Far (fun _ => False) w3 w4))
  have C4 := CP.out w4 hf4'.out
  have a0 : w4.cell? ⟨h, 0, none⟩ = some (.int .i64 S) := (hA'.out.far' hf4'.out id).cell 0
  have a1 : w4.cell? ⟨h, 1, none⟩ = some (.slice ao T.length pc) := (hA'.out.far' hf4'.out id).cell 1
  clear hw4
  go_wp2_with fail
  refine C4.mono ?_
  rintro e w5 ⟨pv5, T5, rfl, ho5, hpl5, hf5⟩
  have S5 := CT.out pv5 T5 w5 ho5.prods hpl5
  have hf5' := Lib.hid (hf4'.out.then hf5)
  clear C4 a0 a1 ho5 hpl5 hf5
  go_wp2_with fail
  refine S5.mono ?_
  rintro e w6 ⟨rfl, hf6⟩
  have hf6' := Lib.hid (hf5'.out.then hf6)
  clear S5 hf6
  go_upto_region 3 with fail
  obtain ⟨w7, hw7⟩ : ∃ w7, w7 = w6.alloc (.cells #[.int .i64 0, .slice none 0 0] 24) := ⟨_, rfl⟩
  rw [← hw7]
  have hf7' := Lib.hid (hf6'.out.then (hw7 ▸ (Far.refl _ w6).alloc _ : Far (fun _ => False) w6 w7))
  clear hw7
  go_wp2_with fail
  refine (head12_any _).mono ?_
  rintro e w8 ⟨rfl, hf8⟩
  have hf8' := Lib.hid (hf7'.out.then hf8)
  have C8 := CK.out w8 hf8'.out
  have a0 : w8.cell? ⟨h, 0, none⟩ = some (.int .i64 S) := (hA'.out.far' hf8'.out id).cell 0
  have a1 : w8.cell? ⟨h, 1, none⟩ = some (.slice ao T.length pc) := (hA'.out.far' hf8'.out id).cell 1
  clear hf8
  go_wp2_with fail
  refine C8.mono ?_
  rintro e w9 ⟨rfl, hf9⟩
  have hf9' := Lib.hid (hf8'.out.then hf9)
  clear C8 a0 a1 hf9
  go_wp2_with fail
  go_ret
  exact ⟨rfl, hF'.out.then hf9'.out⟩
theorem sorts_yes (S : Int) (pv : Value) (T : List Tr) (w : World) (hP : Prods w pv T) (hfi : Fits T) (hy : CnfOK S T) :
    Calls Try.prog 4 #[.agg #[.int .i64 S, pv]] w fun e w' => e = .returned (.bool true) ∧ Far (fun _ => False) w w' := by
  obtain ⟨h, hh⟩ : ∃ h, h = w.heap.size := ⟨_, rfl⟩
  obtain ⟨ao, pc, rfl⟩ := Src.form hP.1
  obtain ⟨w1, hw1⟩ : ∃ w1, w1 = w.alloc (.cells #[.int .i64 S, .slice ao T.length pc] 24) := ⟨_, rfl⟩
  have hA : Bk w1 h 24 #[.int .i64 S, .slice ao T.length pc] := hw1 ▸ Bk.new hh
  have hF : Far (fun _ => False) w w1 := hw1 ▸ (Far.refl _ w).alloc _
  have a0 : w1.cell? ⟨h, 0, none⟩ = some (.int .i64 S) := hA.cell 0
  have a1 : w1.cell? ⟨h, 1, none⟩ = some (.slice ao T.length pc) := hA.cell 1
  have CP := Lib.hid (fun w' (hf : Far (fun _ => False) w1 w') => copy_any S (.slice ao T.length pc) T w' ((hP.move hF).move hf) hfi.1.1 hfi.1.2)
  have CK := Lib.hid (fun w' (hf : Far (fun _ => False) w1 w') => rcheck_any S (.slice ao T.length pc) T w' ((hP.move hF).move hf) hfi.2.1 hfi.2.2)
  have CS := Lib.hid (fun pv' T' w' (hp : Prods w' pv' T') (h : T'.map pl = T.map pl) => sort_ok S pv' T' w' hp (fits_pl h hfi) (ok_pl h hy))
  have CT := Lib.hid (fun pv' T' w' (hp : Prods w' pv' T') (h : T'.map pl = T.map pl) => turn_ok S pv' T' w' hp (fits_pl h hfi) (ok_pl h hy))
  have RS := Lib.hid (fun w' (hf : Far (fun _ => False) w1 w') => rsorted_any S (.slice ao T.length pc) T w' ((hP.move hF).move hf) hfi)
  have RT := Lib.hid (fun w' (hf : Far (fun _ => False) w1 w') => rturn_any S (.slice ao T.length pc) T w' ((hP.move hF).move hf) hfi.1.1 hfi.1.2)
  rw [pcode_yes hy] at CK
  have hh' := Lib.hid hh
  have hw1' := Lib.hid hw1
  have hF' := Lib.hid hF
  have hA' := Lib.hid hA
  have C1 := CP.out w1 (Far.refl _ _)
  clear hP hfi hy hh hw1 hF hA
  go_enter Try.func4, Try.ntmps4
  go_upto_region 1 with fail
  rw [← hh'.out, ← hw1'.out]
  go_wp2_with fail
  refine C1.mono ?_
  rintro e w2 ⟨pv2, T2, rfl, ho2, hpl2, hf2⟩
  have K2 := CS.out pv2 T2 w2 ho2.prods hpl2
  have hpl2' := Lib.hid hpl2
  have hf2' := Lib.hid hf2
  clear C1 a0 a1 ho2 hpl2 hf2
  go_wp2_with fail
  refine K2.mono ?_
  rintro e w3 ⟨⟨R, ao3, c3, rfl, hp3, ⟨hu3, hm3, hl3⟩, hfi3, hy3⟩, hf3⟩
  have hSR := Lib.hid (show (sortL T).map pl = R.map pl from up_same (sortL_canon T).1 hu3 (fun x => by rw [(sortL_canon T).2, hm3, hpl2'.out]))
  have hf3' := Lib.hid (hf2'.out.then hf3)
  have hp3' := Lib.hid hp3
  have hfi3' := Lib.hid hfi3
  clear K2 hf3 hp3 hu3 hm3 hl3 hfi3 hy3
  go_upto_region 2 with fail
  obtain ⟨k3, hk3⟩ : ∃ k, k = w3.heap.size := ⟨_, rfl⟩
  obtain ⟨w4, hw4⟩ : ∃ w4, w4 = w3.alloc (.cells #[.int .i64 S, .slice ao3 R.length c3] 24) := ⟨_, rfl⟩
  rw [← hk3, ← hw4]
  have hB' := Lib.hid (show Bk w4 k3 24 #[.int .i64 S, .slice ao3 R.length c3] from hw4 ▸ Bk.new hk3)
  have hf34 : Far (fun _ => False) w3 w4 := hw4 ▸ (Far.refl _ w3).alloc _
  have hp4' := Lib.hid (hp3'.out.move hf34)
  have hf4' := Lib.hid (hf3'.out.then hf34)
  have C4 := CP.out w4 hf4'.out
  have a0 : w4.cell? ⟨h, 0, none⟩ = some (.int .i64 S) := (hA'.out.far' hf4'.out id).cell 0
  have a1 : w4.cell? ⟨h, 1, none⟩ = some (.slice ao T.length pc) := (hA'.out.far' hf4'.out id).cell 1
  clear hw4 hk3 hf34 hp3'
  go_wp2_with fail
  refine C4.mono ?_
  rintro e w5 ⟨pv5, T5, rfl, ho5, hpl5, hf5⟩
  have S5 := CT.out pv5 T5 w5 ho5.prods hpl5
  have hpl5' := Lib.hid hpl5
  have hf45' := Lib.hid hf5
  have hf5' := Lib.hid (hf4'.out.then hf5)
  clear C4 a0 a1 ho5 hpl5 hf5
  go_wp2_with fail
  refine S5.mono ?_
  rintro e w6 ⟨⟨T6, ao6, c6, rfl, hp6, hm6, hfi6, hy6⟩, hf6⟩
  have hT6 := Lib.hid (show T6.map pl = T.map (fun t => (t.1, t.2.2.reverse)) from hm6.trans (rev_pl hpl5'.out))
  have hf46' := Lib.hid (hf45'.out.then hf6)
  have hf6' := Lib.hid (hf5'.out.then hf6)
  have hp6' := Lib.hid hp6
  have hfi6' := Lib.hid hfi6
  clear S5 hf6 hp6 hm6 hfi6 hy6
  go_upto_region 3 with fail
  obtain ⟨k6, hk6⟩ : ∃ k, k = w6.heap.size := ⟨_, rfl⟩
  obtain ⟨w7, hw7⟩ : ∃ w7, w7 = w6.alloc (.cells #[.int .i64 S, .slice ao6 T6.length c6] 24) := ⟨_, rfl⟩
  rw [← hk6, ← hw7]
  have hD' := Lib.hid (show Bk w7 k6 24 #[.int .i64 S, .slice ao6 T6.length c6] from hw7 ▸ Bk.new hk6)
  have hf67 : Far (fun _ => False) w6 w7 := hw7 ▸ (Far.refl _ w6).alloc _
  have hp7' := Lib.hid (hp6'.out.move hf67)
  have hf47' := Lib.hid (hf46'.out.then hf67)
  have hf7' := Lib.hid (hf6'.out.then hf67)
  clear hw7 hk6 hf67 hp6'
  go_wp2_with fail
  refine (head12_any _).mono ?_
  rintro e w8 ⟨rfl, hf8⟩
  have hf78' := Lib.hid hf8
  have hf48' := Lib.hid (hf47'.out.then hf8)
  have hf8' := Lib.hid (hf7'.out.then hf8)
  have C8 := CK.out w8 hf8'.out
  have a0 : w8.cell? ⟨h, 0, none⟩ = some (.int .i64 S) := (hA'.out.far' hf8'.out id).cell 0
  have a1 : w8.cell? ⟨h, 1, none⟩ = some (.slice ao T.length pc) := (hA'.out.far' hf8'.out id).cell 1
  clear hf8
  go_wp2_with fail
  refine C8.mono ?_
  rintro e w9 ⟨rfl, hf9⟩
  have hf79' := Lib.hid (hf78'.out.then hf9)
  have hf49' := Lib.hid (hf48'.out.then hf9)
  have hf9' := Lib.hid (hf8'.out.then hf9)
  clear C8 a0 a1 hf9
  have hA9 := hA'.out.far' hf9'.out id
  have hB9 := hB'.out.far' hf49'.out id
  have hD9 := hD'.out.far' hf79'.out id
  have HK := Lib.hid (show ∀ w2, Far (fun _ => False) w9 w2 → w2.cell? ⟨h, 0, none⟩ = some (.int .i64 S) ∧ w2.cell? ⟨h, 1, none⟩ = some (.slice ao T.length pc) ∧ w2.cell? ⟨k3, 0, none⟩ = some (.int .i64 S) ∧ w2.cell? ⟨k3, 1, none⟩ = some (.slice ao3 R.length c3) ∧ w2.cell? ⟨k6, 0, none⟩ = some (.int .i64 S) ∧ w2.cell? ⟨k6, 1, none⟩ = some (.slice ao6 T6.length c6) from fun w2 hf => ⟨(hA9.far' hf id).cell 0, (hA9.far' hf id).cell 1, (hB9.far' hf id).cell 0, (hB9.far' hf id).cell 1, (hD9.far' hf id).cell 0, (hD9.far' hf id).cell 1⟩)
  have SM1 := Lib.hid (fun v' w' (hf : Far (fun _ => False) w9 w') (hp : Prods w' v' (sortL T)) => same_yes S (.slice ao3 R.length c3) v' R (sortL T) w' (hp4'.out.move (hf49'.out.then hf)) hp hSR.out hfi3'.out)
  have SM2 := Lib.hid (fun v' T' w' (hf : Far (fun _ => False) w9 w') (hp : Prods w' v' T') (hm : T'.map pl = T.map (fun t => (t.1, t.2.2.reverse))) => same_yes S (.slice ao6 T6.length c6) v' T6 T' w' (hp7'.out.move (hf79'.out.then hf)) hp (hm.trans hT6.out.symm) hfi6'.out)
  have RS9 := Lib.hid (fun w' (hf : Far (fun _ => False) w9 w') => RS.out w' (hf9'.out.then hf))
  have RT9 := Lib.hid (fun w' (hf : Far (fun _ => False) w9 w') => RT.out w' (hf9'.out.then hf))
  obtain ⟨a0, a1, b0, b1, d0, d1⟩ := HK.out w9 (Far.refl _ _)
  clear hA9 hB9 hD9
  go_wp2_with fail
  go_region_held3 (fun w' => w'.cell? ⟨h, 0, none⟩ = some (.int .i64 S) ∧ w'.cell? ⟨h, 1, none⟩ = some (.slice ao T.length pc) ∧ w'.cell? ⟨k3, 0, none⟩ = some (.int .i64 S) ∧ w'.cell? ⟨k3, 1, none⟩ = some (.slice ao3 R.length c3) ∧ w'.cell? ⟨k6, 0, none⟩ = some (.int .i64 S) ∧ w'.cell? ⟨k6, 1, none⟩ = some (.slice ao6 T6.length c6)) (go_keep)
    (first
      | (go_at_call 15; refine (RS9.out _ (drew_far w9)).mono ?_; rintro e w10 ⟨⟨ao10, c10, rfl, hp10⟩, hf10⟩; have FW10 := Lib.hid ((drew_far w9).then hf10); have hp10' := Lib.hid hp10; obtain ⟨r0, r1, r2, r3, r4, r5⟩ := HK.out w10 FW10.out; clear hf10 hp10)
      | (go_at_call 14; refine (SM2.out _ _ _ FW12.out hp12'.out hm12'.out).mono ?_; rintro e w13 ⟨rfl, hf13⟩; have FW13 := Lib.hid (FW12.out.then hf13); obtain ⟨v0, v1, v2, v3, v4, v5⟩ := HK.out w13 FW13.out; clear hf13)
      | (go_at_call 14; refine (SM1.out _ _ FW10.out hp10'.out).mono ?_; rintro e w11 ⟨rfl, hf11⟩; have FW11 := Lib.hid (FW10.out.then hf11); obtain ⟨s0, s1, s2, s3, s4, s5⟩ := HK.out w11 FW11.out; clear hf11)
      | (go_at_call 16; refine (RT9.out _ FW11.out).mono ?_; rintro e w12 ⟨pv12, T12, rfl, ho12, hm12, hf12⟩; obtain ⟨uo, uc, rfl⟩ := Src.form (Src.own ho12.1); have FW12 := Lib.hid (FW11.out.then hf12); have hp12' := Lib.hid ho12.prods; have hm12' := Lib.hid hm12; obtain ⟨t0, t1, t2, t3, t4, t5⟩ := HK.out w12 FW12.out; clear hf12 ho12 hm12))
  all_goals
    go_wp2_with fail
    go_ret
    exact ⟨rfl, hF'.out.then (hf9'.out.then FW13.out)⟩
end
end Go.Proofs.Ytfgoghmhjbhbiaa
