/-
  The program's Who.
-/
import Derived.Test.YteojbnkjphghkaaDoorAns15
import Derived.Deep.LoopGhost
namespace Go.Proofs.YteojbnkjphghkaaDoor
open Go.RowKit
set_option linter.unusedVariables false
set_option linter.unusedSimpArgs false
theorem callsP_yes {P : Program} {F : FuncId} {args : Array Value} {w : World} {Q : World → Prop} {C : Prop} (h : Calls P F args w fun e w' => (∃ b : Bool, e = .returned (.bool b) ∧ (b = true ↔ C)) ∧ Q w') (hc : C) : Calls P F args w fun e w' => e = .returned (.bool true) ∧ Q w' := by
  refine h.mono ?_
  rintro e w' ⟨⟨b, rfl, hb⟩, hq⟩
  rw [hb.2 hc]
  exact ⟨rfl, hq⟩
theorem callsP_no {P : Program} {F : FuncId} {args : Array Value} {w : World} {Q : World → Prop} {C : Prop} (h : Calls P F args w fun e w' => (∃ b : Bool, e = .returned (.bool b) ∧ (b = true ↔ C)) ∧ Q w') (hc : ¬ C) : Calls P F args w fun e w' => e = .returned (.bool false) ∧ Q w' := by
  refine h.mono ?_
  rintro e w' ⟨⟨b, rfl, hb⟩, hq⟩
  cases b with
  | true => exact absurd (hb.1 rfl) hc
  | false => exact ⟨rfl, hq⟩
section
set_option maxHeartbeats 4000000
set_option maxRecDepth 100000
theorem pwho_any (S : Int) (pv wv : Value) (T : List Tr) (Wo : List Int) (w : World) (hP : Prods w pv T) (hw : WdM w wv Wo) (hs : T.length ≤ 4398046510976) (hs2 : ∀ t ∈ T, t.2.2.length ≤ maxLen) (hT : Tab w) :
    Calls Tryd.prog 16 #[.agg #[.int .i64 S, pv], wv] w fun e w' => (∃ v xs, e = .returned (.tuple #[v, .int .i64 (codeL S T [] Wo.length)]) ∧ Src w' 1 v xs.length (ncells xs) ∧ ListP (codeL S T [] Wo.length) (fun x => (x : Int) < S ∧ Der (T.map pl) Wo (x : Int) 0 Wo.length) xs) ∧ Far (fun _ => False) w w' := by
  obtain ⟨h, hh⟩ : ∃ h, h = w.heap.size := ⟨_, rfl⟩
  obtain ⟨ao, pc, rfl⟩ := Src.form hP.1
  obtain ⟨wo, wc, rfl⟩ := Src.form hw
  obtain ⟨w0, hw0⟩ : ∃ w0, w0 = w.alloc (.cells #[.int .i64 S, .slice ao T.length pc] 24) := ⟨_, rfl⟩
  have hA : Bk w0 h 24 #[.int .i64 S, .slice ao T.length pc] := hw0 ▸ Bk.new hh
  have hF : Far (fun _ => False) w w0 := hw0 ▸ (Far.refl _ w).alloc _
  have b0 : w0.cell? ⟨h, 0, none⟩ = some (.int .i64 S) := hA.cell 0
  have b1 : w0.cell? ⟨h, 1, none⟩ = some (.slice ao T.length pc) := hA.cell 1
  have CK := chk_any S (.slice ao T.length pc) (.slice wo Wo.length wc) (.slice none 0 0) T [] Wo.length wo wc w0 (hP.move hF) (Nat.le_trans hs (by decide)) hs2 (Src.nil _ _) rfl (Nat.zero_le _)
  have hh' := Lib.hid (show w.heap.size = h by omega)
  have hw0' := Lib.hid hw0
  have hF' := Lib.hid hF
  have hA' := Lib.hid hA
  have hP' := Lib.hid hP
  have hw' := Lib.hid hw
  have hs' := Lib.hid hs
  have hT' := Lib.hid (fun w' (hf : Far (fun _ => False) w w') => hT.stays (hf.below (Nat.le_refl _) fun _ _ h => h))
  obtain ⟨c, hc⟩ : ∃ c, c = codeL S T [] Wo.length := ⟨_, rfl⟩
  rw [← hc] at CK ⊢
  clear hP hw hh hw0 hF hA hs hs2 hT
  by_cases hz : c = 0
  · obtain ⟨hok, hnt, hn⟩ := code_zero.1 (hc.symm.trans hz)
    obtain ⟨Sn, rfl⟩ : ∃ n : Nat, S = (n : Int) := ⟨S.toNat, by have := hok.1.1; omega⟩
    have hS2 : Sn ≤ 1024 := by have := hok.1.1; omega
    subst hz
    have TB := Lib.hid (fun w' (hf : Far (fun _ => False) w0 w') => chartOf_any Sn (.slice ao T.length pc) (.slice wo Wo.length wc) T Wo w' ((hP'.out.move hF'.out).move hf) ((hw'.out.move hF'.out).move hf) (hT'.out w' (hF'.out.then hf)) hok hn hs'.out)
    clear hok hnt hc
    go_enter Tryd.func16, Tryd.ntmps16
    go_upto_region 1 with fail
    rw [hh'.out, ← hw0'.out]
    go_wp2_with fail
    refine CK.mono ?_
    rintro e w2 ⟨rfl, hf2⟩
    have hf2' := Lib.hid hf2
    have a0 : w2.cell? ⟨h, 0, none⟩ = some (.int .i64 (Sn : Int)) := (hA'.out.far' hf2 id).cell 0
    have a1 : w2.cell? ⟨h, 1, none⟩ = some (.slice ao T.length pc) := (hA'.out.far' hf2 id).cell 1
    have TB2 := TB.out w2 hf2
    clear CK hf2 b0 b1
    go_wp2_with fail
    refine TB2.mono ?_
    rintro e w3 ⟨kB, eB, gB, B, lv, fv, rv, E, G, K, rfl, hC, hK, hf3⟩
    have hf3' := Lib.hid (hf2'.out.then hf3)
    have hC' := Lib.hid hC
    have hK' := Lib.hid hK
    have a0 : w3.cell? ⟨h, 0, none⟩ = some (.int .i64 (Sn : Int)) := (hA'.out.far' hf3'.out id).cell 0
    have hSI : IntKind.i64.wrap (Sn : Int) = (Sn : Int) := IntWalk.i64_in _ (by omega)
    clear TB2 hf3 a1 hK hC
    obtain ⟨wo3, hwo⟩ : ∃ wo, wo = w3 := ⟨_, rfl⟩
    rw [← hwo] at hC' hf3' a0 ⊢
    clear hwo
    go_upto_region 7 with fail
    go_wp2_with fail
    go_loopw [8, 9, 21] (fun lv xv cv wr => ∃ (k : Nat) (D : List Nat) (oo : Option Addr) (oc : Nat), lv = .slice oo D.length oc ∧ cv = .int .i64 k ∧ k ≤ Sn ∧ Hid (D = (List.range k).filter fun (x : Nat) => decide (((x : Int), 0, Wo.length) ∈ K)) ∧ wr.ownsRow wo3.heap.size 3 1 (.slice oo D.length oc) D.length (ncells D) ∧ Far (fun _ => False) wo3 wr) (fun _ _ cv _ => Sn - (intOf cv).toNat)
    case atStart => exact ⟨0, [], none, 0, rfl, rfl, Nat.zero_le _, Lib.hid rfl, World.ownsRow_nil _ _ _ _, Far.refl _ _⟩
    case round =>
      obtain ⟨k, D, oo, oc, rfl, rfl, hk, hD, hown, hfw⟩ := hrel
      have hDl : D.length ≤ k := by
        rw [hD.out]
        exact Nat.le_trans (List.length_filter_le _ _) (by simp)
      have hown' := Lib.hid hown
      have hfw' := Lib.hid hfw
      by_cases hlt : k < Sn
      · have e1 : decide ((k : Int) < (Sn : Int)) = true := by rw [decide_eq_true_eq]; omega
        have HS : Calls Tryd.prog 30 #[.pointer (some ⟨kB, 0, none⟩), .agg #[.int .i64 (k : Int), .int .i64 0, .int .i64 (Wo.length : Int)]] wr fun e w' => (∃ b : Bool, e = .returned (.bool b) ∧ (b = true ↔ ((k : Int), 0, Wo.length) ∈ K)) ∧ Far (fun _ => False) wr w' := chas_any kB eB gB B Sn Wo.length (.slice ao T.length pc) (.slice wo Wo.length wc) lv fv rv E G K (k : Int) 0 Wo.length wr (hC'.out.move hfw) (by unfold Fit; omega) (by omega) hn
        have hsu := Lib.hid (filt_succ (fun (x : Nat) => decide (((x : Int), 0, Wo.length) ∈ K)) k)
        clear hown hfw
        by_cases hq : ((k : Int), 0, Wo.length) ∈ K
        · have HT := callsP_yes HS hq
          have hsu' := Lib.hid (show D ++ [k] = (List.range (k + 1)).filter fun (x : Nat) => decide (((x : Int), 0, Wo.length) ∈ K) by rw [hsu.out, ← hD.out, if_pos (by simpa using hq)])
          clear HS hq
          obtain ⟨inf, hinf, hz0, hz1, hz2⟩ := info_int1
          have A3 : ∀ u ∈ [Value.int .i64 (k : Int)], u.oneCell' = true := by simp [Value.oneCell']
          have A4 : D.length + 1 ≤ maxLen := by unfold maxLen; omega
          have A5 : (D.length + 1) * 8 ≤ 140737488355328 := by omega
          go_upto_region 10 with (go_at_call 30; with_reducible refine HT.mono ?_; rintro e w4 ⟨rfl, hf4⟩; have hf4' := Lib.hid hf4; clear hf4)
          have A1 := Lib.hid (World.ownsRow.alloc (row_far hown'.out hf4'.out fun _ _ q => q) (.cells #[.int .i64 (k : Int)] 3))
          have A2 := Lib.hid (World.news_of_block (w := w4.alloc (.cells #[.int .i64 (k : Int)] 3)) (cs := #[.int .i64 (k : Int)]) (t := 3) (fr := (0, 0)) (heap_alloc_new w4 _))
          have A6 : wo3.heap.size ≤ (w4.alloc (.cells #[.int .i64 (k : Int)] 3)).heap.size := by have := (hfw'.out.then hf4'.out).size; simp; omega
          go_wp2_with (at_builtin; refine wpList_append_lies _ rfl _ _ 25 rfl wo3.heap.size 3 inf _ 1 8 Tryd.underlying25 hinf hz0 hz1 hz2 rfl (by decide) (.slice oo D.length oc) D.length _ rfl A1.out ⟨w4.heap.size, 0, none⟩ 1 1 _ rfl rfl A2.out A3 (by decide) A4 A5 A6 _ rfl ?_; intro fg fcap w7 ho7 hg7 hat7 hl7)
          have hR7 : Far (fun k => (Value.slice oo D.length oc).ownBlock = some k) w4 w7 := ((Far.refl _ w4).alloc _).grown hg7 fun k _ e => e
          have hW7 := Lib.hid ((hfw'.out.then hf4'.out).out hR7 fun k hk e => by have := (hown'.out.lt k e).1; omega)
          have ho7' := Lib.hid ho7
          clear hR7 ho7 hg7 hat7 A1 A2 A3 A4 A5 A6 hl7
          go_roundw
          case rel => exact ⟨k + 1, D ++ [k], some ⟨fg, 0, none⟩, fcap, by rw [List.length_append]; rfl, by go_num, by omega, hsu', by rw [List.length_append, ← ncells_app]; exact ho7'.out, hW7.out⟩
          case measure => simp [intOf]; omega
        · have HT := callsP_no HS hq
          have hsu' : Hid (D = (List.range (k + 1)).filter fun (x : Nat) => decide (((x : Int), 0, Wo.length) ∈ K)) := Lib.hid (by rw [hsu.out, ← hD.out, if_neg (by simpa using hq), List.append_nil])
          clear HS hq
          go_wp2_with (go_at_call 30; with_reducible refine HT.mono ?_; rintro e w4 ⟨rfl, hf4⟩; have hf4' := Lib.hid hf4; clear hf4)
          go_roundw
          case rel => exact ⟨k + 1, D, oo, oc, rfl, by go_num, by omega, hsu', row_far hown'.out hf4'.out fun _ _ q => q, hfw'.out.then hf4'.out⟩
          case measure => simp [intOf]; omega
      · have e1 : decide ((k : Int) < (Sn : Int)) = false := by rw [decide_eq_false_iff_not]; omega
        have hL := Lib.hid (show ListP 0 (fun x => (x : Int) < (Sn : Int) ∧ Der (T.map pl) Wo (x : Int) 0 Wo.length) D from ⟨fun q => absurd rfl q, fun _ => by
          have h9 := range_filter (fun (x : Nat) => decide (((x : Int), 0, Wo.length) ∈ K)) k
          rw [← hD.out] at h9
          refine ⟨h9.1, fun x => (h9.2 x).trans ?_⟩
          rw [decide_eq_true_eq, hK'.out]
          exact ⟨fun q => ⟨by omega, q.2⟩, fun q => ⟨by omega, q.2⟩⟩⟩)
        clear hown hfw
        go_wp2_with fail
        refine bodyPost_ret (v := .tuple #[.slice oo D.length oc, .int .i64 0]) (by simp [results, Tryd.f16, go_sem]) rfl ?_
        exact ⟨⟨_, D, rfl, Src.own hown'.out, hL.out⟩, hF'.out.then (hf3'.out.then hfw'.out)⟩
  · have e1 : (c != 0) = true := by simpa using hz
    have hr := Lib.hid hz
    clear hz hc
    go_enter Tryd.func16, Tryd.ntmps16
    go_upto_region 1 with fail
    rw [hh'.out, ← hw0'.out]
    go_wp2_with fail
    refine CK.mono ?_
    rintro e w2 ⟨rfl, hf2⟩
    have hf2' := Lib.hid hf2
    clear CK hf2 b0 b1
    go_wp2_with fail
    refine bodyPost_ret (v := .tuple #[.slice none 0 0, .int .i64 c]) (by simp [results, Tryd.f16, go_sem]) rfl ?_
    exact ⟨⟨_, [], rfl, Src.nil _ _, fun _ => rfl, fun q => absurd q hr.out⟩, hF'.out.then hf2'.out⟩
end
end Go.Proofs.YteojbnkjphghkaaDoor
