/-
  LeastGoes walked.
-/
import Derived.Test.YtbckikcfcclioaaMadeE13
import Derived.Test.YtbckikcfcclioaaMadeF13
namespace Go.Proofs.Ytbckikcfcclioaa
open Go.RowKit
set_option linter.unusedVariables false
set_option linter.unusedSimpArgs false
theorem pl_some {T T' : List Tr} (h : T'.map pl = T.map pl) {t : Tr} (ht : t ∈ T') : ∃ u ∈ T, u.1 = t.1 ∧ u.2.2 = t.2.2 := by
  have h1 : pl t ∈ T'.map pl := List.mem_map.2 ⟨t, ht, rfl⟩
  rw [h] at h1
  obtain ⟨u, hu, e⟩ := List.mem_map.1 h1
  exact ⟨u, hu, (congrArg Prod.fst e : (pl u).1 = (pl t).1), (congrArg Prod.snd e : (pl u).2 = (pl t).2)⟩
theorem pl_ok {S : Int} {T T' : List Tr} (h : T'.map pl = T.map pl) (hw : CnfOK S T) : CnfOK S T' := ⟨hw.1, fun t ht => by
  obtain ⟨u, hu, e1, e2⟩ := pl_some h ht
  have := hw.2 u hu
  unfold prodOK at *
  rw [← e1, ← e2]
  exact this⟩
theorem pl_closedS {T T' : List Tr} (h : T'.map pl = T.map pl) {s : Nat → Int} (hc : ClosedS T s) : ClosedS T' s := fun t ht => by
  obtain ⟨u, hu, e1, e2⟩ := pl_some h ht
  rw [← e1, ← e2]
  exact hc u hu
theorem pl_sh {S : Nat} {T T' : List Tr} (h : T'.map pl = T.map pl) {s : Nat → Int} (hc : ShOK S T' s) : ShOK S T s :=
  ⟨pl_closedS h.symm hc.1, fun k hk => by
    obtain ⟨t, ht, h1, h2, h3⟩ := hc.2.1 k hk
    obtain ⟨u, hu, e1, e2⟩ := pl_some h ht
    exact ⟨u, hu, by rw [e1]; exact h1, by rw [e2]; exact h2, by rw [e2]; exact h3⟩, fun u hu => hc.2.2.1 u (pl_closedS h hu), hc.2.2.2⟩
theorem pl_closedG {good : (Nat → Bool) → Sy → Bool} {T T' : List Tr} (h : T'.map pl = T.map pl) {E : Nat → Bool} (hc : ClosedG good T E) : ClosedG good T' E := fun t ht hb => by
  obtain ⟨u, hu, e1, e2⟩ := pl_some h ht
  rw [← e1]
  exact hc u hu (by rw [e2]; exact hb)
theorem pl_leastG {good : (Nat → Bool) → Sy → Bool} {T T' : List Tr} (h : T'.map pl = T.map pl) {E : Nat → Bool} (hc : LeastG good T' E) : LeastG good T E := fun C hC => hc C (pl_closedG h hC)
theorem head_s {v1 : Value} {s : Nat → Int} (h : ShOK 2 [((1 : Int), v1, [((true, 0) : Sy)])] s) : s 0 = -1 ∧ s 1 = 1 := by
  obtain ⟨h1, h2, h3, h4⟩ := h
  have a := h1 _ (List.mem_singleton.2 rfl)
  have b := h3 (fun k => if k = 1 then 1 else -1) (fun t ht => by
    rw [List.mem_singleton.1 ht]
    exact (show lei 1 1 from .inr ⟨by decide, by decide⟩))
  have b0 := b 0
  have b1 := b 1
  have c0 := h4 0
  have c1 := h4 1
  have hl : long s [((true, 0) : Sy)] 0 = 1 := rfl
  dsimp only at a
  rw [hl] at a
  simp only [lei] at a b0 b1
  simp at a b0 b1
  omega
section
set_option maxHeartbeats 8000000
set_option maxRecDepth 100000
theorem head13_any (w : World) : Calls Try.prog 11 #[] w fun e w' => e = .returned (.bool true) ∧ Far (fun _ => False) w w' := by
  obtain ⟨b1, hb1⟩ : ∃ b, b = w.heap.size := ⟨_, rfl⟩
  obtain ⟨b2, hb2⟩ : ∃ b, b = b1 + 1 := ⟨_, rfl⟩
  obtain ⟨w1, hw1⟩ : ∃ w1, w1 = w.alloc (.cells #[.bool true, .int .i64 0] 56) := ⟨_, rfl⟩
  obtain ⟨w2, hw2⟩ : ∃ w2, w2 = w1.alloc (.cells #[.int .i64 1, .slice (some ⟨b1, 0, none⟩) 1 1] 36) := ⟨_, rfl⟩
  have z1 : w1.heap.size = b2 := by rw [hw1]; simp [hb2, hb1]
  have hB1 : Body w1 (.slice (some ⟨b1, 0, none⟩) 1 1) [((true, 0) : Sy)] := by rw [hw1, hb1]; exact src_new w 56 [.bool true, .int .i64 0]
  have hF2 : Far (fun _ => False) w1 w2 := hw2 ▸ alloc_far0 _ _
  have hF : Far (fun _ => False) w w2 := (hw1 ▸ alloc_far0 _ _ : Far (fun _ => False) w w1).then hF2
  have hP : Prods w2 (.slice (some ⟨b2, 0, none⟩) 1 1) [((1 : Int), .slice (some ⟨b1, 0, none⟩) 1 1, [((true, 0) : Sy)])] := by
    refine ⟨?_, fun t ht => ?_⟩
    · rw [hw2, ← z1]; exact src_new w1 36 [.int .i64 1, .slice (some ⟨b1, 0, none⟩) 1 1]
    · rw [List.mem_singleton.1 ht]; exact hB1.move hF2
  have SH := shortest_yes 2 (.slice (some ⟨b2, 0, none⟩) 1 1) _ w2 hP (by simp) (fun t ht => by rw [List.mem_singleton.1 ht]; simp [maxLen]) ⟨⟨by decide, by decide⟩, fun t ht => by
    rw [List.mem_singleton.1 ht]
    exact ⟨show (0 : Int) ≤ 1 ∧ (1 : Int) < 2 by decide, fun x hx => by rw [List.mem_singleton.1 hx]; exact ⟨show (0 : Int) ≤ 0 by decide, fun _ => show (0 : Int) < 16 by decide, fun h => by cases h⟩⟩⟩
  have hF' := Lib.hid hF
  have hb1' := Lib.hid hb1
  have hb2' := Lib.hid hb2
  have hw1' := Lib.hid hw1
  have hw2' := Lib.hid hw2
  clear hb1 hb2 hw1 hw2 z1 hB1 hF2 hF hP
  go_enter Try.func11, Try.ntmps11
  go_wp2_with fail
  rw [← hb1'.out, ← hb2'.out, ← hw1'.out, ← hw2'.out]
  refine SH.mono ?_
  rintro e w3 ⟨hf3, gR, s, rfl, hg3, hr3, hsh⟩
  obtain ⟨s0, s1⟩ := head_s hsh
  have q0 : w3.cell? ⟨gR, 0, none⟩ = some (.int .i64 (s 0)) := IRow.at hr3 (by decide)
  have q1 : w3.cell? ⟨gR, 1, none⟩ = some (.int .i64 (s 1)) := IRow.at hr3 (by decide)
  rw [s0] at q0
  rw [s1] at q1
  have hf3' := Lib.hid (hF'.out.then hf3)
  clear SH hf3 hg3 hr3 hsh s0 s1
  go_wp2_with fail
  go_ret
  exact ⟨rfl, hf3'.out⟩
theorem goes_no (S : Int) (pv : Value) (T : List Tr) (w : World) (hP : Prods w pv T) (hs : T.length * 32 ≤ 140737488351232) (hs2 : ∀ t ∈ T, t.2.2.length * 16 ≤ 140737488351232) (hok : ¬ CnfOK S T) :
    Calls Try.prog 3 #[.agg #[.int .i64 S, pv]] w fun e w' => e = .returned (.bool true) ∧ Far (fun _ => False) w w' := by
  obtain ⟨h0, hh0⟩ : ∃ h, h = w.heap.size := ⟨_, rfl⟩
  obtain ⟨ao, ac, rfl⟩ := Src.form hP.1
  obtain ⟨W, hW⟩ : ∃ W, W = w.alloc (.cells #[.int .i64 S, .slice ao T.length ac] 24) := ⟨_, rfl⟩
  have hF : Far (fun _ => False) w W := hW ▸ alloc_far0 _ _
  have hX : Bk W h0 24 #[.int .i64 S, .slice ao T.length ac] := hW ▸ Bk.new hh0
  have hPW := hP.move hF
  have HK := Lib.hid (fun w' (hf : Far (fun _ => False) W w') => (show w'.cell? ⟨h0, 0, none⟩ = some (.int .i64 S) ∧ w'.cell? ⟨h0, 1, none⟩ = some (.slice ao T.length ac) from ⟨(hX.far' hf id).cell 0, (hX.far' hf id).cell 1⟩))
  have CP := Lib.hid (fun w' (hf : Far (fun _ => False) W w') => copy_any S (.slice ao T.length ac) T w' (hPW.move hf) hs hs2)
  have hsz : ∀ T' : List Tr, T'.map pl = T.map pl → T'.length ≤ maxLen ∧ (∀ t ∈ T', t.2.2.length ≤ maxLen) ∧ ¬ CnfOK S T' := fun T' h => by
    have hl := congrArg List.length h
    simp only [List.length_map] at hl
    refine ⟨by unfold maxLen; omega, fun t ht => ?_, fun hk => hok (pl_ok h.symm hk)⟩
    obtain ⟨u, hu, _, e2⟩ := pl_some h ht
    have := hs2 u hu
    rw [← e2]
    unfold maxLen
    omega
  have LE := Lib.hid (fun pv' T' w' (hp : Prods w' pv' T') (hm : T'.map pl = T.map pl) => leastE_no S pv' T' w' hp (hsz T' hm).1 (hsz T' hm).2.1 (hsz T' hm).2.2)
  have LF := Lib.hid (fun pv' T' w' (hp : Prods w' pv' T') (hm : T'.map pl = T.map pl) => leastF_no S pv' T' w' hp (hsz T' hm).1 (hsz T' hm).2.1 (hsz T' hm).2.2)
  have LS := Lib.hid (fun pv' T' w' (hp : Prods w' pv' T') (hm : T'.map pl = T.map pl) => shortest_no S pv' T' w' hp (hsz T' hm).1 (hsz T' hm).2.1 (hsz T' hm).2.2)
  obtain ⟨a0, a1⟩ := HK.out W (Far.refl _ _)
  have C1 := CP.out W (Far.refl _ _)
  have hF' := Lib.hid hF
  have hh0' := Lib.hid hh0
  have hW' := Lib.hid hW
  clear hP hs hs2 hok hh0 hW hF hX hPW hsz
  go_enter Try.func3, Try.ntmps3
  go_upto_region 1 with fail
  rw [← hh0'.out, ← hW'.out]
  go_wp2_with fail
  refine C1.mono ?_
  rintro e w1 ⟨pv1, T1, rfl, ho1, hm1, hf1⟩
  have E1 := LE.out pv1 T1 w1 ho1.prods hm1
  have hf1' := Lib.hid hf1
  clear C1 ho1 hm1 hf1 a0 a1
  go_wp2_with fail
  refine E1.mono ?_
  rintro e w2 ⟨hf2, rfl⟩
  have hf2' := Lib.hid (hf1'.out.then hf2)
  obtain ⟨a0, a1⟩ := HK.out w2 hf2'.out
  have C2 := CP.out w2 hf2'.out
  clear E1 hf2
  go_wp2_with fail
  refine C2.mono ?_
  rintro e w3 ⟨pv3, T3, rfl, ho3, hm3, hf3⟩
  have E3 := LF.out pv3 T3 w3 ho3.prods hm3
  have hf3' := Lib.hid (hf2'.out.then hf3)
  clear C2 ho3 hm3 hf3 a0 a1
  go_wp2_with fail
  refine E3.mono ?_
  rintro e w4 ⟨hf4, rfl⟩
  have hf4' := Lib.hid (hf3'.out.then hf4)
  obtain ⟨a0, a1⟩ := HK.out w4 hf4'.out
  have C4 := CP.out w4 hf4'.out
  clear E3 hf4
  go_wp2_with fail
  refine C4.mono ?_
  rintro e w5 ⟨pv5, T5, rfl, ho5, hm5, hf5⟩
  have E5 := LS.out pv5 T5 w5 ho5.prods hm5
  have hf5' := Lib.hid (hf4'.out.then hf5)
  clear C4 ho5 hm5 hf5 a0 a1
  go_wp2_with fail
  refine E5.mono ?_
  rintro e w6 ⟨hf6, rfl⟩
  have hf6' := Lib.hid (hf5'.out.then hf6)
  clear E5 hf6
  go_wp2_with fail
  refine (head13_any _).mono ?_
  rintro e w7 ⟨rfl, hf7⟩
  have hf7' := Lib.hid (hf6'.out.then hf7)
  clear hf7
  go_wp2_with fail
  go_ret
  exact ⟨rfl, hF'.out.then hf7'.out⟩
theorem goes_yes (S : Nat) (pv : Value) (T : List Tr) (w : World) (hP : Prods w pv T) (hs : T.length * 32 ≤ 140737488351232) (hs2 : ∀ t ∈ T, t.2.2.length * 16 ≤ 140737488351232) (hok : CnfOK (S : Int) T) :
    Calls Try.prog 3 #[.agg #[.int .i64 (S : Int), pv]] w fun e w' => e = .returned (.bool true) ∧ Far (fun _ => False) w w' := by
  obtain ⟨h0, hh0⟩ : ∃ h, h = w.heap.size := ⟨_, rfl⟩
  obtain ⟨ao, ac, rfl⟩ := Src.form hP.1
  obtain ⟨W, hW⟩ : ∃ W, W = w.alloc (.cells #[.int .i64 (S : Int), .slice ao T.length ac] 24) := ⟨_, rfl⟩
  have hF : Far (fun _ => False) w W := hW ▸ alloc_far0 _ _
  have hX : Bk W h0 24 #[.int .i64 (S : Int), .slice ao T.length ac] := hW ▸ Bk.new hh0
  have hPW := hP.move hF
  have hS1 : 1 ≤ S := by have := hok.1.1; omega
  have hS2 : S ≤ 1024 := by have := hok.1.2; omega
  have hTl : T.length ≤ 4398046510976 := by omega
  have HK := Lib.hid (fun w' (hf : Far (fun _ => False) W w') => (show w'.cell? ⟨h0, 0, none⟩ = some (.int .i64 (S : Int)) ∧ w'.cell? ⟨h0, 1, none⟩ = some (.slice ao T.length ac) from ⟨(hX.far' hf id).cell 0, (hX.far' hf id).cell 1⟩))
  have HP := Lib.hid (fun w' (hf : Far (fun _ => False) W w') => hPW.move hf)
  have CP := Lib.hid (fun w' (hf : Far (fun _ => False) W w') => copy_any (S : Int) (.slice ao T.length ac) T w' (hPW.move hf) hs hs2)
  have hsz : ∀ T' : List Tr, T'.map pl = T.map pl → T'.length ≤ 4398046510976 ∧ (∀ t ∈ T', t.2.2.length ≤ maxLen) ∧ CnfOK (S : Int) T' := fun T' h => by
    have hl := congrArg List.length h
    simp only [List.length_map] at hl
    refine ⟨by omega, fun t ht => ?_, pl_ok h hok⟩
    obtain ⟨u, hu, _, e2⟩ := pl_some h ht
    have := hs2 u hu
    rw [← e2]
    unfold maxLen
    omega
  have LE := Lib.hid (fun pv' T' w' (hp : Prods w' pv' T') (hm : T'.map pl = T.map pl) => leastE_yes S pv' T' w' hp (hsz T' hm).1 (hsz T' hm).2.1 (hsz T' hm).2.2)
  have LF := Lib.hid (fun pv' T' w' (hp : Prods w' pv' T') (hm : T'.map pl = T.map pl) => leastF_yes S pv' T' w' hp (hsz T' hm).1 (hsz T' hm).2.1 (hsz T' hm).2.2)
  have LS := Lib.hid (fun pv' T' w' (hp : Prods w' pv' T') (hm : T'.map pl = T.map pl) => shortest_yes S pv' T' w' hp (hsz T' hm).1 (hsz T' hm).2.1 (hsz T' hm).2.2)
  obtain ⟨a0, a1⟩ := HK.out W (Far.refl _ _)
  have C1 := CP.out W (Far.refl _ _)
  have hok' := Lib.hid hok
  have hs2' := Lib.hid hs2
  have hF' := Lib.hid hF
  have hh0' := Lib.hid hh0
  have hW' := Lib.hid hW
  clear hP hs hs2 hok hh0 hW hF hX hPW hsz
  go_enter Try.func3, Try.ntmps3
  go_upto_region 1 with fail
  rw [← hh0'.out, ← hW'.out]
  go_wp2_with fail
  refine C1.mono ?_
  rintro e w1 ⟨pv1, T1, rfl, ho1, hm1, hf1⟩
  have E1 := LE.out pv1 T1 w1 ho1.prods hm1
  have hm1' := Lib.hid hm1
  have hf1' := Lib.hid hf1
  clear C1 ho1 hm1 hf1 a0 a1
  go_wp2_with fail
  refine E1.mono ?_
  rintro e w2 ⟨hf2, gE, fE, rfl, hgE, hrE, hcE, hlE⟩
  have hrE' := Lib.hid hrE
  have hE' := Lib.hid (show ClosedG goodE T fE ∧ LeastG goodE T fE from ⟨pl_closedG hm1'.out.symm hcE, pl_leastG hm1'.out hlE⟩)
  have hf2' := Lib.hid (hf1'.out.then hf2)
  obtain ⟨a0, a1⟩ := HK.out w2 hf2'.out
  have C2 := CP.out w2 hf2'.out
  clear E1 hf2 hrE hcE hlE hgE
  go_wp2_with fail
  refine C2.mono ?_
  rintro e w3 ⟨pv3, T3, rfl, ho3, hm3, hf3⟩
  have E3 := LF.out pv3 T3 w3 ho3.prods hm3
  have hm3' := Lib.hid hm3
  have hf3' := Lib.hid hf3
  clear C2 ho3 hm3 hf3 a0 a1
  go_wp2_with fail
  refine E3.mono ?_
  rintro e w4 ⟨hf4, gF, fF, rfl, hgF, hrF, hcF, hlF⟩
  have hf24 := hf3'.out.then hf4
  have hrF' := Lib.hid hrF
  have hrE4 : Hid (BRow w4 gE S fE) := Lib.hid (Bk.far' hrE'.out hf24 id)
  have hF2' := Lib.hid (show ClosedG goodF T fF ∧ LeastG goodF T fF from ⟨pl_closedG hm3'.out.symm hcF, pl_leastG hm3'.out hlF⟩)
  have hf4' := Lib.hid (hf2'.out.then hf24)
  obtain ⟨a0, a1⟩ := HK.out w4 hf4'.out
  have C4 := CP.out w4 hf4'.out
  clear E3 hf4 hrF hcF hlF hgF hf24
  go_wp2_with fail
  refine C4.mono ?_
  rintro e w5 ⟨pv5, T5, rfl, ho5, hm5, hf5⟩
  have E5 := LS.out pv5 T5 w5 ho5.prods hm5
  have hm5' := Lib.hid hm5
  have hf5' := Lib.hid hf5
  clear C4 ho5 hm5 hf5 a0 a1
  go_wp2_with fail
  refine E5.mono ?_
  rintro e w6 ⟨hf6, gS, s, rfl, hgS, hrS, hsh⟩
  have hf46 := hf5'.out.then hf6
  have hrS' := Lib.hid hrS
  have hrE6 : Hid (BRow w6 gE S fE) := Lib.hid (Bk.far' hrE4.out hf46 id)
  have hrF6 : Hid (BRow w6 gF S fF) := Lib.hid (Bk.far' hrF'.out hf46 id)
  have hsh' := Lib.hid (pl_sh hm5'.out hsh)
  have hf6' := Lib.hid (hf4'.out.then hf46)
  clear E5 hf6 hrS hsh hgS hf46
  go_wp2_with fail
  refine (head13_any _).mono ?_
  rintro e w7 ⟨rfl, hf7⟩
  have hrE7 : Hid (BRow w7 gE S fE) := Lib.hid (Bk.far' hrE6.out hf7 id)
  have hrF7 : Hid (BRow w7 gF S fF) := Lib.hid (Bk.far' hrF6.out hf7 id)
  have hrS7 : Hid (IRow w7 gS S s) := Lib.hid (Bk.far' hrS'.out hf7 id)
  have hf7' := Lib.hid (hf6'.out.then hf7)
  have hEI := Lib.hid (fun n => empty_iff hsh'.out.1 hsh'.out.2.2.1 hE'.out.1 hE'.out.2 n)
  have hFI := Lib.hid (fun n => fruit_iff hsh'.out.1 hsh'.out.2.2.1 hF2'.out.1 hF2'.out.2 n)
  obtain ⟨a0, a1⟩ := HK.out w7 hf7'.out
  clear hf7
  go_wp2_with fail
  clear a0 a1
  go_loopw [9] (fun nv wr => ∃ n : Nat, nv = .int .i64 n ∧ n ≤ S ∧ Far (fun _ => False) w7 wr) (fun nv _ => S - (intOf nv).toNat)
  case atStart => exact ⟨0, rfl, Nat.zero_le _, Far.refl _ _⟩
  case round =>
    obtain ⟨wo, rfl⟩ : ∃ wo : World, wo = wr := ⟨_, rfl⟩
    obtain ⟨n, rfl, hn, hfw⟩ := hrel
    obtain ⟨a0, a1⟩ := HK.out wo (hf7'.out.then hfw)
    by_cases hlt : n < S
    · have e1 : decide ((n : Int) < (S : Int)) = true := by rw [decide_eq_true_eq]; omega
      have hnn : (n : Int) < (S : Int) := by omega
      have hrSo : Hid (IRow wo gS S s) := Lib.hid (Bk.far' hrS7.out hfw id)
      have r0 : wo.cell? ⟨gS, n, none⟩ = some (.int .i64 (s n)) := IRow.at hrSo.out hlt
      have hfo := Lib.hid hfw
      clear hfw
      go_wp2_with fail
      generalize hdz : decide (s n < 0) = bz
      have hdz' := Lib.hid hdz
      clear hdz
      clear a0 a1 r0
      go_loopw [10, 11] (fun bv iv wr => ∃ (b : Bool) (i : Nat), bv = .bool b ∧ iv = .int .i64 i ∧ i ≤ T.length ∧ Far (fun _ => False) w7 wr ∧ Hid (b = false → 0 ≤ s n ∧ ∀ t ∈ T.take i, t.1 = (n : Int) → long s t.2.2 0 ≠ s n)) (fun _ iv _ => T.length - (intOf iv).toNat)
      case atStart => exact ⟨_, 0, rfl, rfl, Nat.zero_le _, hfo.out, Lib.hid (fun h => ⟨by have := hdz'.out; rw [h] at this; simpa using this, fun t ht => by simp at ht⟩)⟩
      case round =>
        obtain ⟨b, i, rfl, rfl, hi, hfw, hb⟩ := hrel
        have hWr := Lib.hid (hf7'.out.then hfw)
        obtain ⟨a0, a1⟩ := HK.out wr hWr.out
        have hrSr : Hid (IRow wr gS S s) := Lib.hid (Bk.far' hrS7.out hfw id)
        have r0 : wr.cell? ⟨gS, n, none⟩ = some (.int .i64 (s n)) := IRow.at hrSr.out hlt
        by_cases hlt2 : i < T.length
        · have e2 : decide ((i : Int) < (T.length : Int)) = true := by rw [decide_eq_true_eq]; omega
          have hii : (i : Int) < (T.length : Int) := by omega
          obtain ⟨t, ht⟩ : ∃ t, T[i]? = some t := ⟨T[i], List.getElem?_eq_getElem hlt2⟩
          obtain ⟨bb, off, c, he, hbl, c0, c1, hbd⟩ := (HP.out wr hWr.out).prod ht
          simp only [Value.slice.injEq] at he
          obtain ⟨rfl, _, rfl⟩ := he
          have hmem := List.mem_of_getElem? ht
          have hfw' := Lib.hid hfw
          have htk := Lib.hid ht
          have hcl := Lib.hid (hsh'.out.1 t hmem)
          have hpk := Lib.hid (hok'.out.2 t hmem)
          have hl2 := Lib.hid (hs2'.out t hmem)
          obtain ⟨p0, pv0, l⟩ := t
          dsimp only at c0 c1 hbd
          obtain ⟨bo, bc, rfl⟩ := Src.form hbd
          by_cases hq : p0 = (n : Int)
          · subst hq
            have g0 : ((n : Int) != (n : Int)) = false := by simp
            obtain ⟨g, hg⟩ : ∃ g, g = long s l 0 := ⟨_, rfl⟩
            have RL := rlong_any S gS s (.slice bo l.length bc) l wr hbd (by have := hl2.out; unfold maxLen; dsimp only at this; omega) hrSr.out (fun x hx hx1 => ⟨(hpk.out.2 x hx).1, (hpk.out.2 x hx).2.2 hx1⟩) hsh'.out.2.2.2 hS2
            rw [← hg] at RL
            have hgl := Lib.hid (show g < 0 ∨ (0 ≤ s n ∧ s n ≤ g) by
              have := hcl.out
              dsimp only at this
              rw [← hg, Int.toNat_natCast] at this
              exact this)
            have hg' := Lib.hid hg
            clear hbl hbd hmem ht hfw hg hcl hpk hl2
            go_wp2_with fail
            refine RL.mono ?_
            rintro e w9 ⟨rfl, hf9⟩
            have hfw9 := Lib.hid (hfw'.out.then hf9)
            have hrS9 : Hid (IRow w9 gS S s) := Lib.hid (Bk.far' hrSr.out hf9 id)
            have q0 : w9.cell? ⟨gS, n, none⟩ = some (.int .i64 (s n)) := IRow.at hrS9.out hlt
            clear RL hf9 a0 a1 r0 c0 c1
            by_cases h0g : g < 0
            · have d0 : decide (g ≥ 0) = false := decide_eq_false (by omega)
              have d0' : decide (0 ≤ g) = false := decide_eq_false (by omega)
              have h0g' := Lib.hid h0g
              clear h0g
              cases b with
              | true =>
                go_wp2_with fail
                go_roundw
                case rel => exact ⟨true, i + 1, rfl, by go_num, by omega, hfw9.out, Lib.hid (fun h => by cases h)⟩
                case measure => simp [intOf]; omega
              | false =>
                have hb2 := Lib.hid (show 0 ≤ s n ∧ ∀ t ∈ T.take (i + 1), t.1 = (n : Int) → long s t.2.2 0 ≠ s n from ⟨(hb.out rfl).1, take_mem_succ htk.out (hb.out rfl).2 fun _ => by
                  dsimp only
                  rw [← hg'.out]
                  have := (hb.out rfl).1
                  have := h0g'.out
                  omega⟩)
                clear hb
                go_wp2_with fail
                go_roundw
                case rel => exact ⟨false, i + 1, rfl, by go_num, by omega, hfw9.out, Lib.hid (fun _ => hb2.out)⟩
                case measure => simp [intOf]; omega
            · have d0 : decide (g ≥ 0) = true := decide_eq_true (by omega)
              have d0' : decide (0 ≤ g) = true := decide_eq_true (by omega)
              have hsg : 0 ≤ s n ∧ s n ≤ g := by rcases hgl.out with h | h <;> omega
              have d1 : decide (s n < 0) = false := decide_eq_false (by omega)
              have d2 : decide (s n > g) = false := decide_eq_false (by omega)
              have d2' : decide (g < s n) = false := decide_eq_false (by omega)
              have hsg' := Lib.hid hsg
              clear h0g hsg
              cases b with
              | true =>
                go_wp2_with fail
                go_roundw
                case rel => exact ⟨true, i + 1, rfl, by go_num, by omega, hfw9.out, Lib.hid (fun h => by cases h)⟩
                case measure => simp [intOf]; omega
              | false =>
                by_cases hgs : g = s n
                · have d3 : (g == s n) = true := by simpa using hgs
                  clear hgs hb
                  go_wp2_with fail
                  go_roundw
                  case rel => exact ⟨true, i + 1, rfl, by go_num, by omega, hfw9.out, Lib.hid (fun h => by cases h)⟩
                  case measure => simp [intOf]; omega
                · have d3 : (g == s n) = false := by simpa using hgs
                  have hb2 := Lib.hid (show 0 ≤ s n ∧ ∀ t ∈ T.take (i + 1), t.1 = (n : Int) → long s t.2.2 0 ≠ s n from ⟨(hb.out rfl).1, take_mem_succ htk.out (hb.out rfl).2 fun _ => by
                    dsimp only
                    rw [← hg'.out]
                    exact hgs⟩)
                  clear hb hgs
                  go_wp2_with fail
                  go_roundw
                  case rel => exact ⟨false, i + 1, rfl, by go_num, by omega, hfw9.out, Lib.hid (fun _ => hb2.out)⟩
                  case measure => simp [intOf]; omega
          · have g0 : (p0 != (n : Int)) = true := by simpa using hq
            have hb2 : Hid (b = false → 0 ≤ s n ∧ ∀ t ∈ T.take (i + 1), t.1 = (n : Int) → long s t.2.2 0 ≠ s n) := Lib.hid (fun h => ⟨(hb.out h).1, take_mem_succ htk.out (hb.out h).2 fun h2 => absurd h2 hq⟩)
            clear hbl hbd hmem ht hfw hb hcl hpk hl2 hq
            go_wp2_with fail
            go_roundw
            case rel => exact ⟨b, i + 1, rfl, by go_num, by omega, hfw'.out, hb2⟩
            case measure => simp [intOf]; omega
        · have e2 : decide ((i : Int) < (T.length : Int)) = false := by rw [decide_eq_false_iff_not]; omega
          have hin : i = T.length := by omega
          have hbt : b = true := by
            cases b with
            | true => rfl
            | false =>
              obtain ⟨h1, h2⟩ := hb.out rfl
              obtain ⟨t, ht, h3, h4⟩ := reach_eq hsh'.out.1 hsh'.out.2.1 h1
              rw [hin, List.take_length] at h2
              have := (hok'.out.2 t ht).1.1
              exact absurd h4 (h2 t ht (by omega))
          subst hbt
          have hfw' := Lib.hid hfw
          clear hb hfw
          have rE0 := Lib.hid (BRow.at (show BRow wr gE S fE from Bk.far' hrE7.out hfw'.out id) hlt)
          have rF0 := Lib.hid (BRow.at (show BRow wr gF S fF from Bk.far' hrF7.out hfw'.out id) hlt)
          have hsr := hsh'.out.2.2.2 n
          have hei := hEI.out n
          have hfi := hFI.out n
          have d2 : decide (s n > 65) = false := decide_eq_false (by omega)
          have d2' : decide (65 < s n) = false := decide_eq_false (by omega)
          have hei' := Lib.hid hei
          have hfi' := Lib.hid hfi
          have hsr' := Lib.hid hsr
          clear hei hfi hsr
          rcases Int.lt_trichotomy (s n) 0 with hc | hc | hc
          · have hEv : fE n = false := by rw [Bool.eq_false_iff]; intro h; have := hei'.out.1 h; omega
            have hFv : fF n = false := by rw [Bool.eq_false_iff]; intro h; have := hfi'.out.1 h; omega
            have rE : wr.cell? ⟨gE, n, none⟩ = some (.bool false) := hEv ▸ rE0.out
            have rF : wr.cell? ⟨gF, n, none⟩ = some (.bool false) := hFv ▸ rF0.out
            have d0 : (s n == 0) = false := by simp; omega
            have d1 : decide (s n ≥ 0) = false := by simp; omega
            have d1' : decide (0 ≤ s n) = false := by simp; omega
            clear hc hEv hFv
            go_wp2_with fail
            go_quiet (fail)
            go_wp2_with fail
            go_roundw
            case rel => exact ⟨n + 1, by go_num, by omega, hfw'.out.drewN _⟩
            case measure => simp [intOf]; omega
          · have hEv : fE n = true := hei'.out.2 hc
            have hFv : fF n = true := hfi'.out.2 (by omega)
            have rE : wr.cell? ⟨gE, n, none⟩ = some (.bool true) := hEv ▸ rE0.out
            have rF : wr.cell? ⟨gF, n, none⟩ = some (.bool true) := hFv ▸ rF0.out
            have d0 : (s n == 0) = true := by simp; omega
            have d1 : decide (s n ≥ 0) = true := by simp; omega
            have d1' : decide (0 ≤ s n) = true := by simp; omega
            clear hc hEv hFv
            go_wp2_with fail
            go_quiet (fail)
            go_wp2_with fail
            go_roundw
            case rel => exact ⟨n + 1, by go_num, by omega, hfw'.out.drewN _⟩
            case measure => simp [intOf]; omega
          · have hEv : fE n = false := by rw [Bool.eq_false_iff]; intro h; have := hei'.out.1 h; omega
            have hFv : fF n = true := hfi'.out.2 (by omega)
            have rE : wr.cell? ⟨gE, n, none⟩ = some (.bool false) := hEv ▸ rE0.out
            have rF : wr.cell? ⟨gF, n, none⟩ = some (.bool true) := hFv ▸ rF0.out
            have d0 : (s n == 0) = false := by simp; omega
            have d1 : decide (s n ≥ 0) = true := by simp; omega
            have d1' : decide (0 ≤ s n) = true := by simp; omega
            clear hc hEv hFv
            go_wp2_with fail
            go_quiet (fail)
            go_wp2_with fail
            go_roundw
            case rel => exact ⟨n + 1, by go_num, by omega, hfw'.out.drewN _⟩
            case measure => simp [intOf]; omega
    · have e1 : decide ((n : Int) < (S : Int)) = false := by rw [decide_eq_false_iff_not]; omega
      have hfo := Lib.hid hfw
      clear hfw
      go_wp2_with fail
      go_ret
      exact ⟨rfl, hF'.out.then (hf7'.out.then hfo.out)⟩
end
end Go.Proofs.Ytbckikcfcclioaa
