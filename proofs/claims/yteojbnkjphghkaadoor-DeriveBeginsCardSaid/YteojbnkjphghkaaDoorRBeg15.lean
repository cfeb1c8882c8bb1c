/-
  The document's Begins, Who.
-/
import Derived.Test.YteojbnkjphghkaaDoorAns15
namespace Go.Proofs.YteojbnkjphghkaaDoor
open Go.RowKit
set_option linter.unusedVariables false
set_option linter.unusedSimpArgs false
section
set_option maxHeartbeats 4000000
set_option maxRecDepth 100000
theorem rbegins_any (S : Int) (pv wv : Value) (T : List Tr) (nt : Int) (Wo : List Int) (w : World) (hP : Prods w pv T) (hw : WdM w wv Wo) (hs : T.length ≤ 4398046510976) (hs2 : ∀ t ∈ T, t.2.2.length ≤ maxLen) :
    Calls Tryd.prog 17 #[.agg #[.int .i64 S, pv], .int .i64 nt, wv] w fun e w' => (∃ v xs, e = .returned (.tuple #[v, .int .i64 (codeL S T [nt] Wo.length)]) ∧ Src w' 1 v xs.length (ncells xs) ∧ ListP (codeL S T [nt] Wo.length) (fun x => Der (T.map pl) Wo nt 0 x) xs) ∧ Far (fun _ => False) w w' := by
  obtain ⟨h, hh⟩ : ∃ h, h = w.heap.size := ⟨_, rfl⟩
  obtain ⟨ao, pc, rfl⟩ := Src.form hP.1
  obtain ⟨wo, wc, rfl⟩ := Src.form hw
  obtain ⟨w1, hw1⟩ : ∃ w1, w1 = w.alloc (.cells #[.int .i64 S, .slice ao T.length pc] 24) := ⟨_, rfl⟩
  have hA : Bk w1 h 24 #[.int .i64 S, .slice ao T.length pc] := hw1 ▸ Bk.new hh
  have hF : Far (fun _ => False) w w1 := hw1 ▸ (Far.refl _ w).alloc _
  have a0 : w1.cell? ⟨h, 0, none⟩ = some (.int .i64 S) := hA.cell 0
  have a1 : w1.cell? ⟨h, 1, none⟩ = some (.slice ao T.length pc) := hA.cell 1
  have CK := wrong_any S (.slice ao T.length pc) T nt Wo.length w1 (hP.move hF) (Nat.le_trans hs (by decide)) hs2
  have hh' := Lib.hid (show w.heap.size = h by omega)
  have hw1' := Lib.hid hw1
  have hF' := Lib.hid hF
  have hA' := Lib.hid hA
  have hP' := Lib.hid hP
  have hw' := Lib.hid hw
  have hs' := Lib.hid hs
  obtain ⟨c, hc⟩ : ∃ c, c = codeL S T [nt] Wo.length := ⟨_, rfl⟩
  rw [← hc] at CK ⊢
  clear hP hw hh hw1 hF hA hs hs2
  by_cases hz : c = 0
  · obtain ⟨hok, hnt, hn⟩ := code_zero.1 (hc.symm.trans hz)
    have hnt2 : 0 ≤ nt ∧ nt < S := by
      refine ⟨?_, ?_⟩
      · exact Int.not_lt.1 fun q => hnt ⟨nt, by simp, .inl q⟩
      · exact Int.not_le.1 fun q => hnt ⟨nt, by simp, .inr q⟩
    obtain ⟨Sn, rfl⟩ : ∃ n : Nat, S = (n : Int) := ⟨S.toNat, by omega⟩
    obtain ⟨a, rfl⟩ : ∃ n : Nat, nt = (n : Int) := ⟨nt.toNat, by omega⟩
    have ha : a < Sn := by omega
    have hS2 : Sn ≤ 1024 := by have := hok.1.1; omega
    subst hz
    have TB := Lib.hid (fun w' (hf : Far (fun _ => False) w1 w') => table_any Sn (.slice ao T.length pc) (.slice wo Wo.length wc) T Wo w' ((hP'.out.move hF'.out).move hf) ((hw'.out.move hF'.out).move hf) hok hn hs'.out)
    clear hok hnt hc hnt2
    go_enter Tryd.func17, Tryd.ntmps17
    go_upto_region 1 with fail
    rw [hh'.out, ← hw1'.out]
    go_wp2_with fail
    refine CK.mono ?_
    rintro e w2 ⟨rfl, hf2⟩
    have hf2' := Lib.hid hf2
    have a0 : w2.cell? ⟨h, 0, none⟩ = some (.int .i64 (Sn : Int)) := (hA'.out.far' hf2 id).cell 0
    have a1 : w2.cell? ⟨h, 1, none⟩ = some (.slice ao T.length pc) := (hA'.out.far' hf2 id).cell 1
    have TB2 := TB.out w2 hf2
    clear CK hf2
    go_wp2_with fail
    refine TB2.mono ?_
    rintro e w3 ⟨g, N, f, rfl, hN, hk, hf, hf3⟩
    have hf3' := Lib.hid (hf2'.out.then hf3)
    have hf' := Lib.hid hf
    clear TB2 hf3 hf a0 a1
    obtain ⟨n, hn0⟩ : ∃ n, n = Wo.length + 1 := ⟨_, rfl⟩
    have hN' := Lib.hid (show N = Sn * n * n by rw [hN, hn0])
    have hk' := Lib.hid hk
    have hn0' := Lib.hid hn0
    have hnb : n ≤ 65 := by omega
    have hW64 : Wo.length ≤ 64 := hn
    have hWn : Wo.length < n := by omega
    have hwn : IntKind.i64.wrap (n : Int) = (n : Int) := IntWalk.i64_in _ (by omega)
    have hnW : (Wo.length : Int) + 1 = (n : Int) := by omega
    clear hN hk hn0
    obtain ⟨wo3, hwo⟩ : ∃ wo, wo = w3 := ⟨_, rfl⟩
    rw [← hwo] at hk' hf3' ⊢
    clear hwo
    go_wp2_with fail
    go_loopw [10, 11] (fun lv cv wr => ∃ (k : Nat) (D : List Nat) (oo : Option Addr) (oc : Nat), lv = .slice oo D.length oc ∧ cv = .int .i64 k ∧ k ≤ n ∧ Hid (D = (List.range k).filter (fun (x : Nat) => f (atN n a 0 x))) ∧ wr.ownsRow wo3.heap.size 3 1 (.slice oo D.length oc) D.length (ncells D) ∧ Far (fun _ => False) wo3 wr) (fun _ cv _ => n - (intOf cv).toNat)
    case atStart => exact ⟨0, [], none, 0, rfl, rfl, Nat.zero_le _, Lib.hid rfl, World.ownsRow_nil _ _ _ _, Far.refl _ _⟩
    case round =>
      obtain ⟨k, D, oo, oc, rfl, rfl, hk, hD, hown, hfw⟩ := hrel
      have hDl : D.length ≤ k := by
        rw [hD.out]
        exact Nat.le_trans (List.length_filter_le _ _) (by simp)
      have hown' := Lib.hid hown
      have hfw' := Lib.hid hfw
      by_cases hlt : k < n
      · have e1 : decide ((k : Int) ≤ (Wo.length : Int)) = true := by rw [decide_eq_true_eq]; omega
        have AT : ∀ w' : World, Calls Tryd.prog 32 #[.int .i64 (a : Int), .int .i64 0, .int .i64 (k : Int), .int .i64 (n : Int)] w' fun e w2 => e = .returned (.int .i64 (atN n a 0 k : Int)) ∧ w' = w2 := fun w' => at_any n a 0 k w' (by omega) (by omega) (by omega) (by omega)
        have lt := atN_lt (n := n) ha (i := 0) (j := k) (by omega) hlt
        have hsu := Lib.hid (filt_succ (fun (x : Nat) => f (atN n a 0 x)) k)
        obtain ⟨q, hq⟩ : ∃ q, q = atN n a 0 k := ⟨_, rfl⟩
        rw [← hq] at AT lt
        have hq' := Lib.hid hq
        have ltN : q < N := by rw [hN'.out]; exact lt
        have ltI : (q : Int) < (N : Int) := by omega
        have fq := BRow.at (w := wr) (g := g) (n := N) (f := f) (Bk.far' hk'.out hfw id) ltN
        clear hown hfw lt hq
        cases hfq : f q with
        | true =>
          have hsu' := Lib.hid (show D ++ [k] = (List.range (k + 1)).filter (fun (x : Nat) => f (atN n a 0 x)) by rw [hsu.out, ← hD.out, if_pos (by rw [← hq'.out]; exact hfq)])
          rw [hfq] at fq
          clear hfq
          obtain ⟨inf, hinf, hz0, hz1, hz2⟩ := info_int1
          have A3 : ∀ u ∈ [Value.int .i64 (k : Int)], u.oneCell' = true := by simp [Value.oneCell']
          have A4 : D.length + 1 ≤ maxLen := by unfold maxLen; omega
          have A5 : (D.length + 1) * 8 ≤ 140737488355328 := by omega
          go_upto_region 10 with (go_at_call 32; with_reducible refine (AT _).mono ?_; rintro e w2 ⟨rfl, hw2⟩; subst hw2)
          obtain ⟨w4, hw4, hf4⟩ : ∃ w4, w4 = wr ∧ Far (fun _ => False) wr w4 := ⟨wr, rfl, Far.refl _ _⟩
          subst hw4
          have hf4' := Lib.hid hf4
          have A1 := Lib.hid (World.ownsRow.alloc (row_far hown'.out hf4'.out fun _ _ q => q) (.cells #[.int .i64 (k : Int)] 3))
          have A2 := Lib.hid (World.news_of_block (w := w4.alloc (.cells #[.int .i64 (k : Int)] 3)) (cs := #[.int .i64 (k : Int)]) (t := 3) (fr := (0, 0)) (heap_alloc_new w4 _))
          have A6 : wo3.heap.size ≤ (w4.alloc (.cells #[.int .i64 (k : Int)] 3)).heap.size := by have := (hfw'.out.then hf4'.out).size; simp; omega
          clear hf4
          go_wp2_with (at_builtin; refine wpList_append_lies _ rfl _ _ 25 rfl wo3.heap.size 3 inf _ 1 8 Tryd.underlying25 hinf hz0 hz1 hz2 rfl (by decide) (.slice oo D.length oc) D.length _ rfl A1.out ⟨w4.heap.size, 0, none⟩ 1 1 _ rfl rfl A2.out A3 (by decide) A4 A5 A6 _ rfl ?_; intro fg fcap w7 ho7 hg7 hat7 hl7)
          have hR7 : Far (fun k => (Value.slice oo D.length oc).ownBlock = some k) w4 w7 := ((Far.refl _ w4).alloc _).grown hg7 fun k _ e => e
          have hW7 := Lib.hid ((hfw'.out.then hf4'.out).out hR7 fun k hk e => by have := (hown'.out.lt k e).1; omega)
          have ho7' := Lib.hid ho7
          clear hR7 ho7 hg7 hat7 A1 A2 A3 A4 A5 A6 hl7
          go_roundw
          case rel => exact ⟨k + 1, D ++ [k], some ⟨fg, 0, none⟩, fcap, by rw [List.length_append]; rfl, by go_num, by omega, hsu', by rw [List.length_append, ← ncells_app]; exact ho7'.out, hW7.out⟩
          case measure => simp [intOf]; omega
        | false =>
          have hsu' : Hid (D = (List.range (k + 1)).filter (fun (x : Nat) => f (atN n a 0 x))) := Lib.hid (by rw [hsu.out, ← hD.out, if_neg (by rw [← hq'.out, hfq]; decide), List.append_nil])
          rw [hfq] at fq
          clear hfq
          go_wp2_with (go_at_call 32; with_reducible refine (AT _).mono ?_; rintro e w2 ⟨rfl, hw2⟩; subst hw2)
          go_roundw
          case rel => exact ⟨k + 1, D, oo, oc, rfl, by go_num, by omega, hsu', hown'.out, hfw'.out⟩
          case measure => simp [intOf]; omega
      · have e1 : decide ((k : Int) ≤ (Wo.length : Int)) = false := by rw [decide_eq_false_iff_not]; omega
        have hL := Lib.hid (show ListP 0 (fun x => Der (T.map pl) Wo (a : Int) 0 x) D from ⟨fun q => absurd rfl q, fun _ => by
          have h9 := range_filter (fun (x : Nat) => f (atN n a 0 x)) k
          rw [← hD.out] at h9
          refine ⟨h9.1, fun x => (h9.2 x).trans ?_⟩
          rw [hn0'.out]
          by_cases hx : x < k
          · have hxS : x ≤ Wo.length := by omega
            rw [hf'.out a 0 x ha (Nat.zero_le _) hxS]
            exact ⟨fun q => q.2, fun q => ⟨hx, q⟩⟩
          · exact ⟨fun q => absurd q.1 hx, fun q => absurd (show x < k by have := (der_in q).2; omega) hx⟩⟩)
        clear hown hfw
        go_wp2_with fail
        refine bodyPost_ret (v := .tuple #[.slice oo D.length oc, .int .i64 0]) (by simp [results, Tryd.f17, go_sem]) rfl ?_
        exact ⟨⟨_, D, rfl, Src.own hown'.out, hL.out⟩, hF'.out.then (hf3'.out.then hfw'.out)⟩
  · have e1 : (c != 0) = true := by simpa using hz
    have hr := Lib.hid hz
    clear hz hc
    go_enter Tryd.func17, Tryd.ntmps17
    go_upto_region 1 with fail
    rw [hh'.out, ← hw1'.out]
    go_wp2_with fail
    refine CK.mono ?_
    rintro e w2 ⟨rfl, hf2⟩
    have hf2' := Lib.hid hf2
    clear CK hf2 a0 a1
    go_wp2_with fail
    refine bodyPost_ret (v := .tuple #[.slice none 0 0, .int .i64 c]) (by simp [results, Tryd.f17, go_sem]) rfl ?_
    exact ⟨⟨_, [], rfl, Src.nil _ _, fun _ => rfl, fun q => absurd q hr.out⟩, hF'.out.then hf2'.out⟩
end
end Go.Proofs.YteojbnkjphghkaaDoor
