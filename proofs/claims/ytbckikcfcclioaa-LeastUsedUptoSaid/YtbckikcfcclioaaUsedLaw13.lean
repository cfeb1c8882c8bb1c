/-
  LeastUsed walked.
-/
import Derived.Test.YtbckikcfcclioaaGoesLaw13
import Derived.Test.YtbckikcfcclioaaRefEF13
import Derived.Test.YtbckikcfcclioaaRefCheckC
import Derived.Test.YtbckikcfcclioaaRefUsed13
import Derived.Test.YtbckikcfcclioaaUsedF13
namespace Go.Proofs.Ytbckikcfcclioaa
open Go.RowKit
set_option linter.unusedVariables false
set_option linter.unusedSimpArgs false
theorem pl_closedU {T T' : List Tr} (h : T'.map pl = T.map pl) {U : Nat → Bool} (hc : ClosedU T U) : ClosedU T' U := fun t ht hU k hk => by
  obtain ⟨u, hu, e1, e2⟩ := pl_some h ht
  exact hc u hu (e1 ▸ hU) k (e2 ▸ hk)
theorem pl_leastU {T T' : List Tr} (h : T'.map pl = T.map pl) {F : Nat → Prop} {U : Nat → Bool} (hl : LeastU T' F U) : LeastU T F U := fun C hC => hl C (pl_closedU h hC)
section
set_option maxHeartbeats 8000000
set_option maxRecDepth 100000
theorem sameBools_nil (w : World) :
    Calls Try.prog 16 #[.slice none 0 0, .slice none 0 0] w fun e w' => e = .returned (.bool true) ∧ Far (fun _ => False) w w' := by
  go_enter Try.func16, Try.ntmps16
  go_wp2_with fail
  go_loopw [5] (fun iv wr => iv = .int .i64 0 ∧ Far (fun _ => False) w wr) (fun iv _ => 0)
  case atStart => exact ⟨rfl, Far.refl _ _⟩
  case round =>
    obtain ⟨rfl, hfw⟩ := hrel
    have hfw' := Lib.hid hfw
    clear hfw
    go_wp2_with fail
    go_ret
    exact ⟨rfl, hfw'.out⟩
theorem usedlaw_no (S : Int) (pv : Value) (T : List Tr) (fo : Option Addr) (n fc : Nat) (w : World) (hP : Prods w pv T) (hs : T.length * 32 ≤ 140737488351232) (hs2 : ∀ t ∈ T, t.2.2.length * 16 ≤ 140737488351232) (hok : ¬ CnfOK S T) :
    Calls Try.prog 4 #[.agg #[.int .i64 S, pv], .slice fo n fc] w fun e w' => e = .returned (.bool true) ∧ Far (fun _ => False) w w' := by
  obtain ⟨h0, hh0⟩ : ∃ h, h = w.heap.size := ⟨_, rfl⟩
  obtain ⟨ao, ac, rfl⟩ := Src.form hP.1
  obtain ⟨W, hW⟩ : ∃ W, W = w.alloc (.cells #[.int .i64 S, .slice ao T.length ac] 24) := ⟨_, rfl⟩
  have hF : Far (fun _ => False) w W := hW ▸ alloc_far0 _ _
  have hX : Bk W h0 24 #[.int .i64 S, .slice ao T.length ac] := hW ▸ Bk.new hh0
  have hPW := hP.move hF
  have HK := Lib.hid (fun w' (hf : Far (fun _ => False) W w') => (show w'.cell? ⟨h0, 0, none⟩ = some (.int .i64 S) ∧ w'.cell? ⟨h0, 1, none⟩ = some (.slice ao T.length ac) from ⟨(hX.far' hf id).cell 0, (hX.far' hf id).cell 1⟩))
  have CP := Lib.hid (fun w' (hf : Far (fun _ => False) W w') => copy_any S (.slice ao T.length ac) T w' (hPW.move hf) hs hs2)
  have hsz : ∀ T' : List Tr, T'.map pl = T.map pl → T'.length ≤ maxLen ∧ (∀ t ∈ T', t.2.2.length ≤ maxLen) ∧ ¬ CnfOK S T' := fun T' h => by
    have hl := congrArg List.length h
    simp only [List.length_map] at hl
    refine ⟨by unfold maxLen; omega, fun t ht => ?_, fun hk => hok (pl_ok h.symm hk)⟩
    obtain ⟨u, hu, _, e2⟩ := pl_some h ht
    have := hs2 u hu
    rw [← e2]
    unfold maxLen
    omega
  have LU := Lib.hid (fun pv' T' w' (hp : Prods w' pv' T') (hm : T'.map pl = T.map pl) => usedF_no S pv' T' fo n fc w' hp (hsz T' hm).1 (hsz T' hm).2.1 (hsz T' hm).2.2)
  have RC := Lib.hid (fun w' (hf : Far (fun _ => False) W w') => rcheck_any S (.slice ao T.length ac) T w' (hPW.move hf) (hsz T rfl).1 (hsz T rfl).2.1)
  rw [pcode_no hok] at RC
  obtain ⟨a0, a1⟩ := HK.out W (Far.refl _ _)
  have C1 := CP.out W (Far.refl _ _)
  have hF' := Lib.hid hF
  have hh0' := Lib.hid hh0
  have hW' := Lib.hid hW
  clear hP hs hs2 hok hh0 hW hF hX hPW hsz
  go_enter Try.func4, Try.ntmps4
  go_upto_region 1 with fail
  rw [← hh0'.out, ← hW'.out]
  go_wp2_with fail
  refine C1.mono ?_
  rintro e w1 ⟨pv1, T1, rfl, ho1, hm1, hf1⟩
  have E1 := LU.out pv1 T1 w1 ho1.prods hm1
  have hf1' := Lib.hid hf1
  clear C1 ho1 hm1 hf1 a0 a1
  go_wp2_with fail
  refine E1.mono ?_
  rintro e w2 ⟨hf2, rfl⟩
  have hf2' := Lib.hid (hf1'.out.then hf2)
  clear E1 hf2
  go_wp2_with fail
  refine (head13_any _).mono ?_
  rintro e w7 ⟨rfl, hf7⟩
  have hf7' := Lib.hid (hf2'.out.then hf7)
  obtain ⟨a0, a1⟩ := HK.out w7 hf7'.out
  have R7 := RC.out w7 hf7'.out
  clear hf7
  go_wp2_with fail
  refine R7.mono ?_
  rintro e w8 ⟨rfl, hf8⟩
  have hf8' := Lib.hid (hf7'.out.then hf8)
  clear R7 hf8 a0 a1
  go_wp2_with fail
  go_ret
  exact ⟨rfl, hF'.out.then hf8'.out⟩
theorem usedlaw_yes (S : Nat) (pv : Value) (T : List Tr) (fo : Option Addr) (n fc : Nat) (f : Nat → Int) (w : World) (hP : Prods w pv T) (hs : T.length * 32 ≤ 140737488351232) (hs2 : ∀ t ∈ T, t.2.2.length * 16 ≤ 140737488351232) (hok : CnfOK (S : Int) T) (hI : Ints w fo n f) (hn : n ≤ 1048576) (hN : tot T ≤ 1048576) :
    Calls Try.prog 4 #[.agg #[.int .i64 (S : Int), pv], .slice fo n fc] w fun e w' => e = .returned (.bool true) ∧ Far (fun _ => False) w w' := by
  obtain ⟨h0, hh0⟩ : ∃ h, h = w.heap.size := ⟨_, rfl⟩
  obtain ⟨ao, ac, rfl⟩ := Src.form hP.1
  obtain ⟨W, hW⟩ : ∃ W, W = w.alloc (.cells #[.int .i64 (S : Int), .slice ao T.length ac] 24) := ⟨_, rfl⟩
  have hF : Far (fun _ => False) w W := hW ▸ alloc_far0 _ _
  have hX : Bk W h0 24 #[.int .i64 (S : Int), .slice ao T.length ac] := hW ▸ Bk.new hh0
  have hPW := hP.move hF
  have hIW := hI.move hF
  have hS1 : 1 ≤ S := by have := hok.1.1; omega
  have hS2 : S ≤ 1024 := by have := hok.1.2; omega
  have hTl : T.length ≤ 4398046510976 := by omega
  have HK := Lib.hid (fun w' (hf : Far (fun _ => False) W w') => (show w'.cell? ⟨h0, 0, none⟩ = some (.int .i64 (S : Int)) ∧ w'.cell? ⟨h0, 1, none⟩ = some (.slice ao T.length ac) from ⟨(hX.far' hf id).cell 0, (hX.far' hf id).cell 1⟩))
  have CP := Lib.hid (fun w' (hf : Far (fun _ => False) W w') => copy_any (S : Int) (.slice ao T.length ac) T w' (hPW.move hf) hs hs2)
  have hsz : ∀ T' : List Tr, T'.map pl = T.map pl → T'.length ≤ 4398046510976 ∧ (∀ t ∈ T', t.2.2.length ≤ maxLen) ∧ CnfOK (S : Int) T' := fun T' h => by
    have hl := congrArg List.length h
    simp only [List.length_map] at hl
    refine ⟨by omega, fun t ht => ?_, pl_ok h hok⟩
    obtain ⟨u, hu, _, e2⟩ := pl_some h ht
    have := hs2 u hu
    rw [← e2]
    unfold maxLen
    omega
  have LU := Lib.hid (fun pv' T' w' (hp : Prods w' pv' T') (hm : T'.map pl = T.map pl) (hf : Far (fun _ => False) W w') => usedF_yes S pv' T' fo n fc f w' hp (hsz T' hm).1 (hsz T' hm).2.1 (hsz T' hm).2.2 (hIW.move hf) (by unfold maxLen; omega))
  have RC := Lib.hid (fun w' (hf : Far (fun _ => False) W w') => rcheck_any (S : Int) (.slice ao T.length ac) T w' (hPW.move hf) (by unfold maxLen; omega) (hsz T rfl).2.1)
  rw [pcode_yes hok] at RC
  have RU := Lib.hid (fun w' (hf : Far (fun _ => False) W w') => rused_any S (.slice ao T.length ac) T fo n fc f w' (hPW.move hf) hTl (hsz T rfl).2.1 hok (hIW.move hf) hn hN)
  obtain ⟨a0, a1⟩ := HK.out W (Far.refl _ _)
  have C1 := CP.out W (Far.refl _ _)
  have hF' := Lib.hid hF
  have hh0' := Lib.hid hh0
  have hW' := Lib.hid hW
  clear hP hs hs2 hok hh0 hW hF hX hPW hsz hI hIW hN
  go_enter Try.func4, Try.ntmps4
  go_upto_region 1 with fail
  rw [← hh0'.out, ← hW'.out]
  go_wp2_with fail
  refine C1.mono ?_
  rintro e w1 ⟨pv1, T1, rfl, ho1, hm1, hf1⟩
  have E1 := LU.out pv1 T1 w1 ho1.prods hm1 hf1
  have hm1' := Lib.hid hm1
  have hf1' := Lib.hid hf1
  clear C1 ho1 hm1 hf1 a0 a1
  go_wp2_with fail
  refine E1.mono ?_
  rintro e w2 ⟨hf2, hcase⟩
  have hf2' := Lib.hid (hf1'.out.then hf2)
  clear E1 hf2
  rcases hcase with ⟨hfr, rfl⟩ | ⟨hfr, gU, U, rfl, hrU, hcU, hfU, hlU⟩
  · have hfr' := Lib.hid hfr
    clear hfr
    go_wp2_with fail
    refine (head13_any _).mono ?_
    rintro e w7 ⟨rfl, hf7⟩
    have hf7' := Lib.hid (hf2'.out.then hf7)
    obtain ⟨a0, a1⟩ := HK.out w7 hf7'.out
    have R7 := RC.out w7 hf7'.out
    clear hf7
    go_wp2_with fail
    refine R7.mono ?_
    rintro e w8 ⟨rfl, hf8⟩
    have hf8' := Lib.hid (hf7'.out.then hf8)
    clear R7 hf8 a0 a1
    obtain ⟨a0, a1⟩ := HK.out w8 hf8'.out
    have U8 := RU.out w8 hf8'.out
    go_wp2_with fail
    refine U8.mono ?_
    rintro e w9 ⟨hf9, hcase⟩
    have hf9' := Lib.hid (hf8'.out.then hf9)
    clear U8 hf9 a0 a1
    rcases hcase with ⟨_, rfl⟩ | ⟨hfr2, _⟩
    · have SN := sameBools_nil w9
      go_wp2_with fail
      refine SN.mono ?_
      rintro e w10 ⟨rfl, hf10⟩
      have hf10' := Lib.hid (hf9'.out.then hf10)
      clear SN hf10
      go_wp2_with fail
      go_ret
      exact ⟨rfl, hF'.out.then hf10'.out⟩
    · exact absurd hfr2 hfr'.out
  · have hfr' := Lib.hid hfr
    have hrU' : Hid (BRow w2 gU S U) := Lib.hid hrU
    have hU' := Lib.hid (show ClosedU T U ∧ (∀ j, FromIn n f j → U j = true) ∧ LeastU T (FromIn n f) U from ⟨pl_closedU hm1'.out.symm hcU, hfU, pl_leastU hm1'.out hlU⟩)
    clear hfr hrU hcU hfU hlU
    go_wp2_with fail
    refine (head13_any _).mono ?_
    rintro e w7 ⟨rfl, hf7⟩
    have hf27 := Lib.hid hf7
    have hf7' := Lib.hid (hf2'.out.then hf7)
    obtain ⟨a0, a1⟩ := HK.out w7 hf7'.out
    have R7 := RC.out w7 hf7'.out
    clear hf7
    go_wp2_with fail
    refine R7.mono ?_
    rintro e w8 ⟨rfl, hf8⟩
    have hf28 := Lib.hid (hf27.out.then hf8)
    have hf8' := Lib.hid (hf7'.out.then hf8)
    clear R7 hf8 a0 a1
    obtain ⟨a0, a1⟩ := HK.out w8 hf8'.out
    have U8 := RU.out w8 hf8'.out
    go_wp2_with fail
    refine U8.mono ?_
    rintro e w9 ⟨hf9, hcase⟩
    have hf29 := Lib.hid (hf28.out.then hf9)
    have hf9' := Lib.hid (hf8'.out.then hf9)
    clear U8 hf9 a0 a1
    rcases hcase with ⟨hfr2, _⟩ | ⟨_, gO, V, rfl, hrV, hcV, hfV, hlV⟩
    · exact absurd hfr'.out hfr2
    · have hrV2 : BRow w9 gO S U := hrV.congr fun k _ => used_uniq hcV hfV hlV hU'.out.1 hU'.out.2.1 hU'.out.2.2 k
      have SB := sameBools_yes S gU gO U w9 (Bk.far' hrU'.out hf29.out id) hrV2 hS2
      clear hrV hcV hfV hlV hrV2
      go_wp2_with fail
      refine SB.mono ?_
      rintro e w10 ⟨rfl, hf10⟩
      have hf10' := Lib.hid (hf9'.out.then hf10)
      clear SB hf10
      go_wp2_with fail
      go_ret
      exact ⟨rfl, hF'.out.then hf10'.out⟩
end
end Go.Proofs.Ytbckikcfcclioaa
