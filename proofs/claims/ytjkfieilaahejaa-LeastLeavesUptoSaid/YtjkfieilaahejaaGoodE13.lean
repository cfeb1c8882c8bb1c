/-
  What can be empty: its symbols, made's step.
-/
import Derived.Test.YtjkfieilaahejaaGood13
namespace Go.Proofs.Ytjkfieilaahejaa
open Go.RowKit
set_option linter.unusedVariables false
set_option linter.unusedSimpArgs false
section
set_option maxHeartbeats 4000000
set_option maxRecDepth 100000
theorem goodE_any (S gR : Nat) (E : Nat → Bool) (b : Bool) (k : Int) (w : World) (hR : BRow w gR S E) (hs : SymIn S (b, k)) (hSm : S ≤ 1024) :
    Calls Try.prog 26 #[.agg #[.bool b, .int .i64 k], .slice (some ⟨gR, 0, none⟩) S S] w fun e w' => e = .returned (.bool (goodE E (b, k))) ∧ Far (fun _ => False) w w' := by
  have hgl : gR < w.heap.size := Bk.lt hR
  cases b with
  | true =>
    have hv := Lib.hid (show goodE E (true, k) = false from rfl)
    clear hs hR
    go_enter Try.func26, Try.ntmps26
    go_wp2_with fail
    go_ret
    exact ⟨by rw [hv.out]; rfl, alloc_far0 _ _⟩
  | false =>
    obtain ⟨h0, h1⟩ := hs rfl
    dsimp only at h0 h1
    obtain ⟨kn, rfl⟩ : ∃ kn : Nat, k = (kn : Int) := ⟨k.toNat, by omega⟩
    have hk : kn < S := by omega
    have r0 : w.cell? ⟨gR, kn, none⟩ = some (.bool (E kn)) := IRow_at hR hk
    have hv : goodE E (false, (kn : Int)) = E kn := by simp [goodE]
    rw [hv]
    generalize E kn = eb at *
    clear hs hR hv
    go_enter Try.func26, Try.ntmps26
    go_wp2_with fail
    go_ret
    exact ⟨rfl, alloc_far0 _ _⟩
theorem notE_any (S gR kG kIs : Nat) (E : Nat → Bool) (b : Bool) (k : Int) (w : World) (hR : BRow w gR S E) (hs : SymIn S (b, k)) (hSm : S ≤ 1024) (hG : Bk w kG 53 #[.func (.func 26) #[] #[]]) (hI : Bk w kIs 30 #[.slice (some ⟨gR, 0, none⟩) S S]) :
    Calls Try.prog 53 #[.agg #[.bool b, .int .i64 k], .pointer (some ⟨kG, 0, none⟩), .pointer (some ⟨kIs, 0, none⟩)] w fun e w' => e = .returned (.bool (!goodE E (b, k))) ∧ Far (fun _ => False) w w' := by
  obtain ⟨w1, hw1⟩ : ∃ w1, w1 = w.alloc (.cells #[.bool b, .int .i64 k] 50) := ⟨_, rfl⟩
  obtain ⟨h, hh⟩ : ∃ h, h = w.heap.size := ⟨_, rfl⟩
  have hf : Far (fun _ => False) w w1 := hw1 ▸ alloc_far0 _ _
  have hX : Bk w1 h 50 #[.bool b, .int .i64 k] := hw1 ▸ Bk.new hh
  have g0 : w1.cell? ⟨kG, 0, none⟩ = some (.func (.func 26) #[] #[]) := (hG.far' hf id).cell 0
  have i0 : w1.cell? ⟨kIs, 0, none⟩ = some (.slice (some ⟨gR, 0, none⟩) S S) := (hI.far' hf id).cell 0
  have x0 : w1.cell? ⟨h, 0, none⟩ = some (.bool b) := hX.cell 0
  have x1 : w1.cell? ⟨h, 1, none⟩ = some (.int .i64 k) := hX.cell 1
  have GD := goodE_any S gR E b k w1 (Bk.far' hR hf id) hs hSm
  have hf' := Lib.hid hf
  have hw1' := Lib.hid hw1
  have hh' := Lib.hid hh
  generalize goodE E (b, k) = gb at *
  clear hf hw1 hX hG hI hR hs hh
  go_enter Try.func53, Try.ntmps53
  go_upto_region 1 with fail
  rw [← hh'.out, ← hw1'.out]
  go_wp2_with fail
  refine GD.mono ?_
  rintro e w2 ⟨rfl, hf2⟩
  have hf2' := Lib.hid hf2
  clear hf2 GD g0 i0 x0 x1
  go_wp2_with fail
  go_ret
  exact ⟨rfl, hf'.out.then hf2'.out⟩
theorem idxE_any (S gR kG kIs : Nat) (E : Nat → Bool) (v : Value) (l : List Sy) (w : World) (hB : Body w v l) (hl : l.length ≤ maxLen) (hR : BRow w gR S E) (hs : ∀ x ∈ l, SymIn S x) (hSm : S ≤ 1024) (hG : Bk w kG 53 #[.func (.func 26) #[] #[]]) (hI : Bk w kIs 30 #[.slice (some ⟨gR, 0, none⟩) S S]) :
    Calls Try.prog 69 #[v, .func (.func 53) #[] #[.pointer (some ⟨kG, 0, none⟩), .pointer (some ⟨kIs, 0, none⟩)]] w fun e w' => ∃ r : Int, e = .returned (.int .i64 r) ∧ decide (0 ≤ r) = !l.all (goodE E) ∧ Far (fun _ => False) w w' := by
  unfold maxLen at hl
  obtain ⟨ao, ac, rfl⟩ := Src.form hB
  have hB' := Lib.hid hB
  have NT := Lib.hid (fun b k w' (hf : Far (fun _ => False) w w') (hx : (b, k) ∈ l) => notE_any S gR kG kIs E b k w' (Bk.far' hR hf id) (hs _ hx) hSm (hG.far' hf id) (hI.far' hf id))
  clear hB hR hs hG hI
  go_enter Try.func69, Try.ntmps69
  go_wp2_with fail
  go_loopw [8] (fun iv wr => ∃ i : Nat, iv = .int .i64 i ∧ i ≤ l.length ∧ Hid (∀ x ∈ l.take i, goodE E x = true) ∧ Far (fun _ => False) w wr) (fun iv _ => l.length - (intOf iv).toNat)
  case atStart => exact ⟨0, rfl, Nat.zero_le _, Lib.hid (fun x hx => by simp at hx), Far.refl _ _⟩
  case round =>
    obtain ⟨i, rfl, hi, hg, hfw⟩ := hrel
    by_cases hlt : i < l.length
    · have e1 : decide ((i : Int) < (l.length : Int)) = true := by rw [decide_eq_true_eq]; omega
      have hii : (i : Int) < (l.length : Int) := by omega
      obtain ⟨x, hx⟩ : ∃ x, l[i]? = some x := ⟨l[i], List.getElem?_eq_getElem hlt⟩
      obtain ⟨b, off, c, he, hbl, c0, c1⟩ := (hB'.out.move hfw).sym hx
      simp only [Value.slice.injEq] at he
      obtain ⟨rfl, _, rfl⟩ := he
      have hmem := List.mem_of_getElem? hx
      have htk : l.take (i + 1) = l.take i ++ [x] := by
        obtain ⟨h1, h2⟩ := List.getElem?_eq_some_iff.1 hx
        rw [← h2, List.take_succ_eq_append_getElem h1]
      obtain ⟨xb, xk⟩ := x
      dsimp only at c0 c1
      have N1 := NT.out xb xk wr hfw hmem
      have hfw' := Lib.hid hfw
      cases hq : goodE E (xb, xk) with
      | true =>
        rw [hq] at N1
        have hg' : Hid (∀ x ∈ l.take (i + 1), goodE E x = true) := Lib.hid (fun y hy => by
          rw [htk] at hy
          rcases List.mem_append.1 hy with h1 | h1
          · exact hg.out y h1
          · rw [List.mem_singleton.1 h1]; exact hq)
        clear hq htk hmem hx hfw hbl hg
        go_wp2_with fail
        refine N1.mono ?_
        rintro e w2 ⟨rfl, hf2⟩
        have hf2' := Lib.hid hf2
        clear N1 hf2 c0 c1
        go_wp2_with fail
        go_roundw
        case rel => exact ⟨i + 1, by go_num, by omega, hg', hfw'.out.then hf2'.out⟩
        case measure => simp [intOf]; omega
      | false =>
        rw [hq] at N1
        have hall := Lib.hid (show (!l.all (goodE E)) = true by
          rw [Bool.not_eq_true', List.all_eq_false]
          exact ⟨_, hmem, by rw [hq]; simp⟩)
        clear hq htk hmem hx hfw hbl hg
        go_wp2_with fail
        refine N1.mono ?_
        rintro e w2 ⟨rfl, hf2⟩
        have hf2' := Lib.hid hf2
        clear N1 hf2 c0 c1
        go_wp2_with fail
        go_ret
        exact ⟨_, rfl, by rw [hall.out]; simp, hfw'.out.then hf2'.out⟩
    · have e1 : decide ((i : Int) < (l.length : Int)) = false := by rw [decide_eq_false_iff_not]; omega
      have hin : i = l.length := by omega
      have hall := Lib.hid (show (!l.all (goodE E)) = false by
        rw [Bool.not_eq_false', List.all_eq_true]
        exact fun x hx => hg.out x (by rw [hin, List.take_length]; exact hx))
      have hfw' := Lib.hid hfw
      clear hfw hg
      go_wp2_with fail
      go_ret
      exact ⟨-1, rfl, by rw [hall.out]; rfl, hfw'.out⟩
theorem containsE_any (S gR kG kIs : Nat) (E : Nat → Bool) (v : Value) (l : List Sy) (w : World) (hB : Body w v l) (hl : l.length ≤ maxLen) (hR : BRow w gR S E) (hs : ∀ x ∈ l, SymIn S x) (hSm : S ≤ 1024) (hG : Bk w kG 53 #[.func (.func 26) #[] #[]]) (hI : Bk w kIs 30 #[.slice (some ⟨gR, 0, none⟩) S S]) :
    Calls Try.prog 52 #[v, .func (.func 53) #[] #[.pointer (some ⟨kG, 0, none⟩), .pointer (some ⟨kIs, 0, none⟩)]] w fun e w' => ∃ u, e = .returned u ∧ (u = .bool (!l.all (goodE E)) ∧ Far (fun _ => False) w w') := by
  have IX := idxE_any S gR kG kIs E v l w hB hl hR hs hSm hG hI
  obtain ⟨ao, ac, rfl⟩ := Src.form hB
  clear hB hl hR hs hSm hG hI
  go_enter Try.func52, Try.ntmps52
  go_wp2_with fail
  refine IX.mono ?_
  rintro e w2 ⟨r, rfl, hr, hf⟩
  have hr' := Lib.hid hr
  have hf' := Lib.hid hf
  clear IX hr hf
  go_wp2_with fail
  go_ret
  exact ⟨_, rfl, by rw [← hr'.out]; rfl, hf'.out⟩
theorem made1E_any (S gR kG kIs : Nat) (E : Nat → Bool) (h : Nat) (v : Value) (l : List Sy) (w : World) (hB : Body w v l) (hl : l.length ≤ maxLen) (hR : BRow w gR S E) (hs : ∀ x ∈ l, SymIn S x) (hSm : S ≤ 1024) (hh : h < S) (hG : Bk w kG 53 #[.func (.func 26) #[] #[]]) (hI : Bk w kIs 30 #[.slice (some ⟨gR, 0, none⟩) S S]) :
    Calls Try.prog 51 #[.agg #[.int .i64 (h : Int), v], .pointer (some ⟨kIs, 0, none⟩), .pointer (some ⟨kG, 0, none⟩)] w fun e w' => MP1 goodE gR S E h l w e w' := by
  obtain ⟨bo, bc, rfl⟩ := Src.form hB
  obtain ⟨ax, hax⟩ : ∃ ax, ax = w.heap.size := ⟨_, rfl⟩
  obtain ⟨wa, hwa⟩ : ∃ wa, wa = w.alloc (.cells #[.int .i64 (h : Int), .slice bo l.length bc] 44) := ⟨_, rfl⟩
  have hfa : Far (fun _ => False) w wa := hwa ▸ alloc_far0 _ _
  have hX : Bk wa ax 44 #[.int .i64 (h : Int), .slice bo l.length bc] := hwa ▸ Bk.new hax
  have hRa : BRow wa gR S E := Bk.far' hR hfa id
  have hIa := hI.far' hfa id
  have hGa := hG.far' hfa id
  have x0 : wa.cell? ⟨ax, 0, none⟩ = some (.int .i64 (h : Int)) := hX.cell 0
  have x1 : wa.cell? ⟨ax, 1, none⟩ = some (.slice bo l.length bc) := hX.cell 1
  have i0 : wa.cell? ⟨kIs, 0, none⟩ = some (.slice (some ⟨gR, 0, none⟩) S S) := hIa.cell 0
  have r0 : wa.cell? ⟨gR, h, none⟩ = some (.bool (E h)) := IRow_at hRa hh
  have CT0 := containsE_any S gR kG kIs E (.slice bo l.length bc) l wa.drew ((hB.move hfa).move (drew_far _)) hl (Bk.far' hRa (drew_far _) id) hs hSm (hGa.far' (drew_far _) id) (hIa.far' (drew_far _) id)
  generalize hall : l.all (goodE E) = gl at CT0
  have CT := Lib.hid CT0
  have hall' := Lib.hid hall
  clear CT0 hall
  have hhI : (h : Int) < (S : Int) := by omega
  have hgax : gR ≠ ax := by have := Bk.lt hR; omega
  have hgax' : ax ≠ gR := fun e => hgax e.symm
  have hgk : gR ≠ kIs := bk_ne hRa hIa (by decide)
  have hgk' : kIs ≠ gR := fun e => hgk e.symm
  have hX' := Lib.hid hX
  have hRa' := Lib.hid hRa
  have hIa' := Lib.hid hIa
  have hfa' := Lib.hid (hfa.mono (G := fun k => k = gR) fun _ _ h => h.elim)
  have hax' := Lib.hid hax
  have hwa' := Lib.hid hwa
  clear hB hl hR hs hG hI hax hwa hfa hX hRa hIa hGa
  by_cases hE : E h = true
  · have hE' := Lib.hid hE
    rw [hE] at r0
    clear hE
    go_enter Try.func51, Try.ntmps51
    go_upto_region 1 with fail
    rw [← hax'.out, ← hwa'.out]
    go_wp2_with fail
    go_ret
    exact (show MP1 goodE gR S E h l w _ _ from ⟨hfa'.out, .inl ⟨rfl, hRa'.out, fun _ => hE'.out⟩⟩)
  · have hE0 : E h = false := by simpa using hE
    have hE' := Lib.hid hE0
    rw [hE0] at r0
    clear hE hE0
    go_enter Try.func51, Try.ntmps51
    go_upto_region 1 with fail
    rw [← hax'.out, ← hwa'.out]
    go_upto_region 3 with fail
    clear r0
    go_region_law
      (first
        | (refine step_call rfl 52 #[.slice bo l.length bc, .func (.func 53) #[] #[.pointer (some ⟨kG, 0, none⟩), .pointer (some ⟨kIs, 0, none⟩)]] ?_ CT.out ?_; (go_simp); rintro v4 w4 ⟨rfl, hf4⟩; have FW4 := Lib.hid ((drew_far wa).then hf4); have hX4 := Lib.hid (hX'.out.far' FW4.out id); have hI4 := Lib.hid (hIa'.out.far' FW4.out id); have hR4 : Hid (BRow w4 gR S E) := Lib.hid (Bk.far' hRa'.out FW4.out id); have y0 : w4.cell? ⟨ax, 0, none⟩ = some (.int .i64 (h : Int)) := hX4.out.cell 0; have y1 : w4.cell? ⟨ax, 1, none⟩ = some (.slice bo l.length bc) := hX4.out.cell 1; have j0 : w4.cell? ⟨kIs, 0, none⟩ = some (.slice (some ⟨gR, 0, none⟩) S S) := hI4.out.cell 0; have q0 : w4.cell? ⟨gR, h, none⟩ = some (.bool (E h)) := IRow_at hR4.out hh; have q1 : w4.frozen? ⟨gR, h, none⟩ = false := Bk.free hR4.out h; rw [hE'.out] at q0; clear hf4))
    all_goals
      have S5 := Lib.hid ((Far.refl (fun k => k = gR) w4).set ⟨gR, h, none⟩ (.bool (!(!gl))) (fun _ => rfl))
      have R5 : Hid (BRow (w4.setCell ⟨gR, h, none⟩ (.bool (!(!gl)))) gR S (updG E h (!(!gl)))) := Lib.hid (BRow.put hR4.out h _)
      have FW5 := Lib.hid ((hfa'.out.trans FW4.out fun _ _ h => h.elim).trans S5.out fun _ _ h => h)
      rw [Bool.not_not] at S5 R5 FW5
      cases gl with
      | true =>
        go_wp2_with fail
        go_ret
        exact (show MP1 goodE gR S E h l w _ _ from ⟨FW5.out, .inr ⟨rfl, R5.out, hE'.out, hall'.out⟩⟩)
      | false =>
        go_wp2_with fail
        go_ret
        exact (show MP1 goodE gR S E h l w _ _ from ⟨FW5.out, .inl ⟨rfl, updG_self hE'.out ▸ R5.out, fun q => by rw [hall'.out] at q; cases q⟩⟩)
end
end Go.Proofs.Ytjkfieilaahejaa
