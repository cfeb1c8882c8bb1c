/-
  LeastTells walked.
-/
import Derived.Test.YtbckikcfcclioaaGoesLaw13
import Derived.Test.YtbckikcfcclioaaRefEF13
import Derived.Test.YtbckikcfcclioaaRefCheckC
namespace Go.Proofs.Ytbckikcfcclioaa
open Go.RowKit
set_option linter.unusedVariables false
set_option linter.unusedSimpArgs false
section
set_option maxHeartbeats 8000000
set_option maxRecDepth 100000
theorem tells_no (S : Int) (pv : Value) (T : List Tr) (w : World) (hP : Prods w pv T) (hs : T.length * 32 ≤ 140737488351232) (hs2 : ∀ t ∈ T, t.2.2.length * 16 ≤ 140737488351232) (hok : ¬ CnfOK S T) :
    Calls Try.prog 5 #[.agg #[.int .i64 S, pv]] w fun e w' => e = .returned (.bool true) ∧ Far (fun _ => False) w w' := by
  obtain ⟨h0, hh0⟩ : ∃ h, h = w.heap.size := ⟨_, rfl⟩
  obtain ⟨ao, ac, rfl⟩ := Src.form hP.1
  obtain ⟨W, hW⟩ : ∃ W, W = w.alloc (.cells #[.int .i64 S, .slice ao T.length ac] 24) := ⟨_, rfl⟩
  have hF : Far (fun _ => False) w W := hW ▸ alloc_far0 _ _
  have hX : Bk W h0 24 #[.int .i64 S, .slice ao T.length ac] := hW ▸ Bk.new hh0
  have hPW := hP.move hF
  have HK := Lib.hid (fun w' (hf : Far (fun _ => False) W w') => (show w'.cell? ⟨h0, 0, none⟩ = some (.int .i64 S) ∧ w'.cell? ⟨h0, 1, none⟩ = some (.slice ao T.length ac) from ⟨(hX.far' hf id).cell 0, (hX.far' hf id).cell 1⟩))
  have CP := Lib.hid (fun w' (hf : Far (fun _ => False) W w') => copy_any S (.slice ao T.length ac) T w' (hPW.move hf) hs hs2)
  have hsz : ∀ T' : List Tr, T'.map pl = T.map pl → T'.length ≤ maxLen ∧ (∀ t ∈ T', t.2.2.length ≤ maxLen) ∧ ¬ CnfOK S T' := fun T' h => by
    have hl := congrArg List.length h
    simp only [List.length_map] at hl
    refine ⟨by unfold maxLen; omega, fun t ht => ?_, fun hk => hok (pl_ok h.symm hk)⟩
    obtain ⟨u, hu, _, e2⟩ := pl_some h ht
    have := hs2 u hu
    rw [← e2]
    unfold maxLen
    omega
  have LE := Lib.hid (fun pv' T' w' (hp : Prods w' pv' T') (hm : T'.map pl = T.map pl) => leastE_no S pv' T' w' hp (hsz T' hm).1 (hsz T' hm).2.1 (hsz T' hm).2.2)
  have LF := Lib.hid (fun pv' T' w' (hp : Prods w' pv' T') (hm : T'.map pl = T.map pl) => leastF_no S pv' T' w' hp (hsz T' hm).1 (hsz T' hm).2.1 (hsz T' hm).2.2)
  have LS := Lib.hid (fun pv' T' w' (hp : Prods w' pv' T') (hm : T'.map pl = T.map pl) => shortest_no S pv' T' w' hp (hsz T' hm).1 (hsz T' hm).2.1 (hsz T' hm).2.2)
  have RC := Lib.hid (fun w' (hf : Far (fun _ => False) W w') => rcheck_any S (.slice ao T.length ac) T w' (hPW.move hf) (hsz T rfl).1 (hsz T rfl).2.1)
  rw [pcode_no hok] at RC
  obtain ⟨a0, a1⟩ := HK.out W (Far.refl _ _)
  have C1 := CP.out W (Far.refl _ _)
  have hF' := Lib.hid hF
  have hh0' := Lib.hid hh0
  have hW' := Lib.hid hW
  clear hP hs hs2 hok hh0 hW hF hX hPW hsz
  go_enter Try.func5, Try.ntmps5
  go_upto_region 1 with fail
  rw [← hh0'.out, ← hW'.out]
  go_wp2_with fail
  refine C1.mono ?_
  rintro e w1 ⟨pv1, T1, rfl, ho1, hm1, hf1⟩
  have E1 := LE.out pv1 T1 w1 ho1.prods hm1
  have hf1' := Lib.hid hf1
  clear C1 ho1 hm1 hf1 a0 a1
  go_wp2_with fail
  refine E1.mono ?_
  rintro e w2 ⟨hf2, rfl⟩
  have hf2' := Lib.hid (hf1'.out.then hf2)
  obtain ⟨a0, a1⟩ := HK.out w2 hf2'.out
  have C2 := CP.out w2 hf2'.out
  clear E1 hf2
  go_wp2_with fail
  refine C2.mono ?_
  rintro e w3 ⟨pv3, T3, rfl, ho3, hm3, hf3⟩
  have E3 := LF.out pv3 T3 w3 ho3.prods hm3
  have hf3' := Lib.hid (hf2'.out.then hf3)
  clear C2 ho3 hm3 hf3 a0 a1
  go_wp2_with fail
  refine E3.mono ?_
  rintro e w4 ⟨hf4, rfl⟩
  have hf4' := Lib.hid (hf3'.out.then hf4)
  obtain ⟨a0, a1⟩ := HK.out w4 hf4'.out
  have C4 := CP.out w4 hf4'.out
  clear E3 hf4
  go_wp2_with fail
  refine C4.mono ?_
  rintro e w5 ⟨pv5, T5, rfl, ho5, hm5, hf5⟩
  have E5 := LS.out pv5 T5 w5 ho5.prods hm5
  have hf5' := Lib.hid (hf4'.out.then hf5)
  clear C4 ho5 hm5 hf5 a0 a1
  go_wp2_with fail
  refine E5.mono ?_
  rintro e w6 ⟨hf6, rfl⟩
  have hf6' := Lib.hid (hf5'.out.then hf6)
  clear E5 hf6
  go_wp2_with fail
  refine (head13_any _).mono ?_
  rintro e w7 ⟨rfl, hf7⟩
  have hf7' := Lib.hid (hf6'.out.then hf7)
  obtain ⟨a0, a1⟩ := HK.out w7 hf7'.out
  have R7 := RC.out w7 hf7'.out
  clear hf7
  go_wp2_with fail
  refine R7.mono ?_
  rintro e w8 ⟨rfl, hf8⟩
  have hf8' := Lib.hid (hf7'.out.then hf8)
  clear R7 hf8 a0 a1
  go_wp2_with fail
  go_ret
  exact ⟨rfl, hF'.out.then hf8'.out⟩
theorem tells_yes (S : Nat) (pv : Value) (T : List Tr) (w : World) (hP : Prods w pv T) (hs : T.length * 32 ≤ 140737488351232) (hs2 : ∀ t ∈ T, t.2.2.length * 16 ≤ 140737488351232) (hok : CnfOK (S : Int) T) :
    Calls Try.prog 5 #[.agg #[.int .i64 (S : Int), pv]] w fun e w' => e = .returned (.bool true) ∧ Far (fun _ => False) w w' := by
  obtain ⟨h0, hh0⟩ : ∃ h, h = w.heap.size := ⟨_, rfl⟩
  obtain ⟨ao, ac, rfl⟩ := Src.form hP.1
  obtain ⟨W, hW⟩ : ∃ W, W = w.alloc (.cells #[.int .i64 (S : Int), .slice ao T.length ac] 24) := ⟨_, rfl⟩
  have hF : Far (fun _ => False) w W := hW ▸ alloc_far0 _ _
  have hX : Bk W h0 24 #[.int .i64 (S : Int), .slice ao T.length ac] := hW ▸ Bk.new hh0
  have hPW := hP.move hF
  have hS1 : 1 ≤ S := by have := hok.1.1; omega
  have hS2 : S ≤ 1024 := by have := hok.1.2; omega
  have hTl : T.length ≤ 4398046510976 := by omega
  have HK := Lib.hid (fun w' (hf : Far (fun _ => False) W w') => (show w'.cell? ⟨h0, 0, none⟩ = some (.int .i64 (S : Int)) ∧ w'.cell? ⟨h0, 1, none⟩ = some (.slice ao T.length ac) from ⟨(hX.far' hf id).cell 0, (hX.far' hf id).cell 1⟩))
  have HP := Lib.hid (fun w' (hf : Far (fun _ => False) W w') => hPW.move hf)
  have CP := Lib.hid (fun w' (hf : Far (fun _ => False) W w') => copy_any (S : Int) (.slice ao T.length ac) T w' (hPW.move hf) hs hs2)
  have hsz : ∀ T' : List Tr, T'.map pl = T.map pl → T'.length ≤ 4398046510976 ∧ (∀ t ∈ T', t.2.2.length ≤ maxLen) ∧ CnfOK (S : Int) T' := fun T' h => by
    have hl := congrArg List.length h
    simp only [List.length_map] at hl
    refine ⟨by omega, fun t ht => ?_, pl_ok h hok⟩
    obtain ⟨u, hu, _, e2⟩ := pl_some h ht
    have := hs2 u hu
    rw [← e2]
    unfold maxLen
    omega
  have LE := Lib.hid (fun pv' T' w' (hp : Prods w' pv' T') (hm : T'.map pl = T.map pl) => leastE_yes S pv' T' w' hp (hsz T' hm).1 (hsz T' hm).2.1 (hsz T' hm).2.2)
  have LF := Lib.hid (fun pv' T' w' (hp : Prods w' pv' T') (hm : T'.map pl = T.map pl) => leastF_yes S pv' T' w' hp (hsz T' hm).1 (hsz T' hm).2.1 (hsz T' hm).2.2)
  have LS := Lib.hid (fun pv' T' w' (hp : Prods w' pv' T') (hm : T'.map pl = T.map pl) => shortest_yes S pv' T' w' hp (hsz T' hm).1 (hsz T' hm).2.1 (hsz T' hm).2.2)
  have RC := Lib.hid (fun w' (hf : Far (fun _ => False) W w') => rcheck_any (S : Int) (.slice ao T.length ac) T w' (hPW.move hf) (by unfold maxLen; omega) (hsz T rfl).2.1)
  rw [pcode_yes hok] at RC
  have RS := Lib.hid (fun w' (hf : Far (fun _ => False) W w') => rshort_any S (.slice ao T.length ac) T w' (hPW.move hf) hTl (hsz T rfl).2.1 hok)
  have RE := Lib.hid (fun w' (hf : Far (fun _ => False) W w') => rempty_any S (.slice ao T.length ac) T w' (hPW.move hf) hTl (hsz T rfl).2.1 hok)
  have RF := Lib.hid (fun w' (hf : Far (fun _ => False) W w') => rfruit_any S (.slice ao T.length ac) T w' (hPW.move hf) hTl (hsz T rfl).2.1 hok)
  obtain ⟨a0, a1⟩ := HK.out W (Far.refl _ _)
  have C1 := CP.out W (Far.refl _ _)
  have hok' := Lib.hid hok
  have hs2' := Lib.hid hs2
  have hF' := Lib.hid hF
  have hh0' := Lib.hid hh0
  have hW' := Lib.hid hW
  clear hP hs hs2 hok hh0 hW hF hX hPW hsz
  go_enter Try.func5, Try.ntmps5
  go_upto_region 1 with fail
  rw [← hh0'.out, ← hW'.out]
  go_wp2_with fail
  refine C1.mono ?_
  rintro e w1 ⟨pv1, T1, rfl, ho1, hm1, hf1⟩
  have E1 := LE.out pv1 T1 w1 ho1.prods hm1
  have hm1' := Lib.hid hm1
  have hf1' := Lib.hid hf1
  clear C1 ho1 hm1 hf1 a0 a1
  go_wp2_with fail
  refine E1.mono ?_
  rintro e w2 ⟨hf2, gE, fE, rfl, hgE, hrE, hcE, hlE⟩
  have hrE' := Lib.hid hrE
  have hE' := Lib.hid (show ClosedG goodE T fE ∧ LeastG goodE T fE from ⟨pl_closedG hm1'.out.symm hcE, pl_leastG hm1'.out hlE⟩)
  have hf2' := Lib.hid (hf1'.out.then hf2)
  obtain ⟨a0, a1⟩ := HK.out w2 hf2'.out
  have C2 := CP.out w2 hf2'.out
  clear E1 hf2 hrE hcE hlE hgE
  go_wp2_with fail
  refine C2.mono ?_
  rintro e w3 ⟨pv3, T3, rfl, ho3, hm3, hf3⟩
  have E3 := LF.out pv3 T3 w3 ho3.prods hm3
  have hm3' := Lib.hid hm3
  have hf3' := Lib.hid hf3
  clear C2 ho3 hm3 hf3 a0 a1
  go_wp2_with fail
  refine E3.mono ?_
  rintro e w4 ⟨hf4, gF, fF, rfl, hgF, hrF, hcF, hlF⟩
  have hf24 := hf3'.out.then hf4
  have hrF' := Lib.hid hrF
  have hrE4 : Hid (BRow w4 gE S fE) := Lib.hid (Bk.far' hrE'.out hf24 id)
  have hF2' := Lib.hid (show ClosedG goodF T fF ∧ LeastG goodF T fF from ⟨pl_closedG hm3'.out.symm hcF, pl_leastG hm3'.out hlF⟩)
  have hf4' := Lib.hid (hf2'.out.then hf24)
  obtain ⟨a0, a1⟩ := HK.out w4 hf4'.out
  have C4 := CP.out w4 hf4'.out
  clear E3 hf4 hrF hcF hlF hgF hf24
  go_wp2_with fail
  refine C4.mono ?_
  rintro e w5 ⟨pv5, T5, rfl, ho5, hm5, hf5⟩
  have E5 := LS.out pv5 T5 w5 ho5.prods hm5
  have hm5' := Lib.hid hm5
  have hf5' := Lib.hid hf5
  clear C4 ho5 hm5 hf5 a0 a1
  go_wp2_with fail
  refine E5.mono ?_
  rintro e w6 ⟨hf6, gS, s, rfl, hgS, hrS, hsh⟩
  have hf46 := hf5'.out.then hf6
  have hrS' := Lib.hid hrS
  have hrE6 : Hid (BRow w6 gE S fE) := Lib.hid (Bk.far' hrE4.out hf46 id)
  have hrF6 : Hid (BRow w6 gF S fF) := Lib.hid (Bk.far' hrF'.out hf46 id)
  have hsh' := Lib.hid (pl_sh hm5'.out hsh)
  have hf6' := Lib.hid (hf4'.out.then hf46)
  clear E5 hf6 hrS hsh hgS hf46
  go_wp2_with fail
  refine (head13_any _).mono ?_
  rintro e w7 ⟨rfl, hf7⟩
  have hrE7 : Hid (BRow w7 gE S fE) := Lib.hid (Bk.far' hrE6.out hf7 id)
  have hrF7 : Hid (BRow w7 gF S fF) := Lib.hid (Bk.far' hrF6.out hf7 id)
  have hrS7 : Hid (IRow w7 gS S s) := Lib.hid (Bk.far' hrS'.out hf7 id)
  have hf7' := Lib.hid (hf6'.out.then hf7)
  have hEI := Lib.hid (fun n => empty_iff hsh'.out.1 hsh'.out.2.2.1 hE'.out.1 hE'.out.2 n)
  have hFI := Lib.hid (fun n => fruit_iff hsh'.out.1 hsh'.out.2.2.1 hF2'.out.1 hF2'.out.2 n)
  obtain ⟨a0, a1⟩ := HK.out w7 hf7'.out
  clear hf7
  have R7 := RC.out w7 hf7'.out
  go_wp2_with fail
  refine R7.mono ?_
  rintro e w8 ⟨rfl, hf8⟩
  have hf8' := Lib.hid (hf7'.out.then hf8)
  have hf78 := Lib.hid hf8
  clear R7 hf8 a0 a1
  obtain ⟨a0, a1⟩ := HK.out w8 hf8'.out
  have S8 := RS.out w8 hf8'.out
  go_wp2_with fail
  refine S8.mono ?_
  rintro e w9 ⟨hf9, gW, sW, rfl, _, hrW, hcW, hlW, hgW⟩
  have hWs := Lib.hid (fun n => sh_uniq hcW hlW hgW hsh'.out.1 hsh'.out.2.2.1 hsh'.out.2.2.2 n)
  have hrW9 := Lib.hid hrW
  have hf79 := Lib.hid (hf78.out.then hf9)
  have hf9' := Lib.hid (hf8'.out.then hf9)
  clear S8 hf9 a0 a1 hrW hcW hlW hgW
  obtain ⟨a0, a1⟩ := HK.out w9 hf9'.out
  have E9 := RE.out w9 hf9'.out
  go_wp2_with fail
  refine E9.mono ?_
  rintro e w10 ⟨hf10, gB, sB, rfl, hrB, hcB, hlB, hgB⟩
  have hrBE : Hid (BRow w10 gB S fE) := Lib.hid (hrB.congr fun n hn => by
    have e1 := sh_uniq hcB hlB hgB hsh'.out.1 hsh'.out.2.2.1 hsh'.out.2.2.2 n
    have e2 := hEI.out n
    rw [e1, Bool.eq_iff_iff, beq_iff_eq]
    exact e2.symm)
  have hf910 := Lib.hid hf10
  have hf710 := Lib.hid (hf79.out.then hf10)
  have hf10' := Lib.hid (hf9'.out.then hf10)
  have SB := sameBools_yes S gE gB fE w10 (Bk.far' hrE7.out hf710.out id) hrBE.out hS2
  clear E9 hf10 a0 a1 hrB hcB hlB hgB
  go_wp2_with fail
  refine SB.mono ?_
  rintro e w11 ⟨rfl, hf11⟩
  have hf11' := Lib.hid (hf10'.out.then hf11)
  have hf711 := Lib.hid (hf710.out.then hf11)
  have hf911 := Lib.hid (hf910.out.then hf11)
  clear SB hf11
  obtain ⟨a0, a1⟩ := HK.out w11 hf11'.out
  have F11 := RF.out w11 hf11'.out
  go_wp2_with fail
  refine F11.mono ?_
  rintro e w12 ⟨hf12, gB2, sB2, rfl, hrB, hcB, hlB, hgB⟩
  have hrBF : Hid (BRow w12 gB2 S fF) := Lib.hid (hrB.congr fun n hn => by
    have e1 := sh_uniq hcB hlB hgB hsh'.out.1 hsh'.out.2.2.1 hsh'.out.2.2.2 n
    have e2 := hFI.out n
    rw [e1, Bool.eq_iff_iff, decide_eq_true_eq]
    exact e2.symm)
  have hf712 := Lib.hid (hf711.out.then hf12)
  have hf912 := Lib.hid (hf911.out.then hf12)
  have hf12' := Lib.hid (hf11'.out.then hf12)
  have SF := sameBools_yes S gF gB2 fF w12 (Bk.far' hrF7.out hf712.out id) hrBF.out hS2
  clear F11 hf12 a0 a1 hrB hcB hlB hgB
  go_wp2_with fail
  refine SF.mono ?_
  rintro e w13 ⟨rfl, hf13⟩
  have hf13' := Lib.hid (hf12'.out.then hf13)
  have hf713 := hf712.out.then hf13
  have hf913 := hf912.out.then hf13
  have SI := sameInts_any S gS gW s sW w13 (Bk.far' hrS7.out hf713 id) (Bk.far' hrW9.out hf913 id) hS2
  clear SF hf13 hf713 hf913
  go_wp2_with fail
  refine SI.mono ?_
  rintro e w14 ⟨b, rfl, hb, hf14⟩
  obtain rfl : b = true := hb.2 fun n hn => (hWs.out n).symm
  have hf14' := Lib.hid (hf13'.out.then hf14)
  clear SI hb hf14
  go_wp2_with fail
  go_ret
  exact ⟨rfl, hF'.out.then hf14'.out⟩
end
end Go.Proofs.Ytbckikcfcclioaa
