/-
  Parts: walked.
-/
import Derived.Test.YtfgoghmhjbhbiaaPartsSt
import Derived.Deep.DeepCutAuto
namespace Go.Proofs.Ytfgoghmhjbhbiaa
open Go.RowKit
set_option linter.unusedVariables false
set_option linter.unusedSimpArgs false
theorem info_int : (Try.prog.info? 3).map (fun i => (i.zero.map (·.cells.size), i.size, i.bytes)) = some (some 1, 1, 8) := by kernel_rfl
theorem row_two {w : World} {g : Nat} {t : TypeId} {a b u v x : Value} {base e sz n : Nat} {xs : List Value} (hrow : w.ownsRow base e sz x n xs) (hb : Bk w g t #[a, b]) (hne : e ≠ t) : ((w.setCell ⟨g, 0, none⟩ u).setCell ⟨g, 1, none⟩ v).ownsRow base e sz x n xs :=
  row_far hrow (((Far.refl (fun k => k = g) w).set _ _ (fun _ => rfl)).set _ _ (fun _ => rfl)) fun k hk e => own_ne hrow hb hne (e ▸ hk)
section
set_option maxHeartbeats 4000000
set_option maxRecDepth 100000
theorem parts_no (S : Int) (pv : Value) (T : List Tr) (w : World) (hP : Prods w pv T) (hs : T.length ≤ maxLen) (hs2 : ∀ t ∈ T, t.2.2.length ≤ maxLen) (hW : ¬ WeakP S T) :
    Calls Try.prog 20 #[.agg #[.int .i64 S, pv]] w fun e w' => e = .returned (.tuple #[.slice none 0 0, .slice none 0 0, .slice none 0 0]) ∧ Far (fun _ => False) w w' := by
  obtain ⟨h, hh⟩ : ∃ h, h = w.heap.size := ⟨_, rfl⟩
  obtain ⟨ao, pc, rfl⟩ := Src.form hP.1
  obtain ⟨w1, hw1⟩ : ∃ w1, w1 = w.alloc (.cells #[.int .i64 S, .slice ao T.length pc] 24) := ⟨_, rfl⟩
  have hA : Bk w1 h 24 #[.int .i64 S, .slice ao T.length pc] := hw1 ▸ Bk.new hh
  have hF : Far (fun _ => False) w w1 := hw1 ▸ (Far.refl _ w).alloc _
  have a0 : w1.cell? ⟨h, 0, none⟩ = some (.int .i64 S) := hA.cell 0
  have a1 : w1.cell? ⟨h, 1, none⟩ = some (.slice ao T.length pc) := hA.cell 1
  have IS := is_any S (.slice ao T.length pc) T w1 (hP.move hF) hs hs2
  have hh' := Lib.hid hh
  have hw1' := Lib.hid hw1
  have hF' := Lib.hid hF
  have hW' := Lib.hid hW
  clear hP hs hs2 hh hw1 hF hA hW
  go_enter Try.func20, Try.ntmps20
  go_upto_region 1 with fail
  rw [← hh'.out, ← hw1'.out]
  go_wp2_with fail
  refine IS.mono ?_
  rintro e w2 ⟨⟨b, rfl, hb⟩, hf2⟩
  obtain rfl : b = false := by
    cases b with
    | false => rfl
    | true => exact absurd (hb.1 rfl) hW'.out
  have hf2' := Lib.hid hf2
  clear hb hf2 IS a0 a1
  go_wp2_with fail
  go_ret3
  exact ⟨rfl, hF'.out.then hf2'.out⟩
theorem parts_yes (S : Int) (pv : Value) (T : List Tr) (w : World) (hP : Prods w pv T) (hs : T.length * 32 ≤ 140737488351232) (hs2 : ∀ t ∈ T, t.2.2.length * 16 ≤ 140737488351232) (hW : WeakP S T) :
    Calls Try.prog 20 #[.agg #[.int .i64 S, pv]] w fun e w' => (∃ hv lv qv B H T6 T7, e = .returned (.tuple #[hv, lv, qv]) ∧ PSt w' B T T.length hv lv qv H T6 T7) ∧ Far (fun _ => False) w w' := by
  obtain ⟨h, hh⟩ : ∃ h, h = w.heap.size := ⟨_, rfl⟩
  obtain ⟨ao, pc, rfl⟩ := Src.form hP.1
  obtain ⟨w1, hw1⟩ : ∃ w1, w1 = w.alloc (.cells #[.int .i64 S, .slice ao T.length pc] 24) := ⟨_, rfl⟩
  have hA : Bk w1 h 24 #[.int .i64 S, .slice ao T.length pc] := hw1 ▸ Bk.new hh
  have hF : Far (fun _ => False) w w1 := hw1 ▸ (Far.refl _ w).alloc _
  have a0 : w1.cell? ⟨h, 0, none⟩ = some (.int .i64 S) := hA.cell 0
  have a1 : w1.cell? ⟨h, 1, none⟩ = some (.slice ao T.length pc) := hA.cell 1
  have IS := is_any S (.slice ao T.length pc) T w1 (hP.move hF) (by unfold maxLen; omega) (fun t ht => by have := hs2 t ht; unfold maxLen; omega)
  have hP1 := Lib.hid (hP.move hF)
  have hs2' := Lib.hid hs2
  have hh' := Lib.hid hh
  have hw1' := Lib.hid hw1
  have hF' := Lib.hid hF
  have hA' := Lib.hid hA
  have hW' := Lib.hid hW
  clear hP hs2 hh hw1 hF hA hW
  go_enter Try.func20, Try.ntmps20
  go_upto_region 1 with fail
  rw [← hh'.out, ← hw1'.out]
  go_wp2_with fail
  refine IS.mono ?_
  rintro e w2 ⟨⟨b, rfl, hb⟩, hf2⟩
  obtain rfl : b = true := hb.2 hW'.out
  have hf2' := Lib.hid hf2
  clear hb IS a0 a1
  have a1 : w2.cell? ⟨h, 1, none⟩ = some (.slice ao T.length pc) := (hA'.out.far' hf2 id).cell 1
  clear hf2
  go_wp2_with fail
  clear a1
  go_loopw [5, 6, 7, 17] (fun hv lv qv iv wr => ∃ (i : Nat) (H : List Int) (T6 T7 : List Tr) (ho : Option Addr) (hc : Nat) (lo : Option Addr) (lc : Nat) (qo : Option Addr) (qc : Nat), hv = .slice ho H.length hc ∧ lv = .slice lo T6.length lc ∧ qv = .slice qo T7.length qc ∧ iv = .int .i64 i ∧ i ≤ T.length ∧ PSt wr w1.heap.size T i (.slice ho H.length hc) (.slice lo T6.length lc) (.slice qo T7.length qc) H T6 T7 ∧ Far (fun _ => False) w1 wr) (fun _ _ _ iv _ => T.length - (intOf iv).toNat)
  case atStart => exact ⟨0, [], [], [], none, 0, none, 0, none, 0, rfl, rfl, rfl, rfl, Nat.zero_le _, ⟨World.ownsRow_nil _ _ _ _, ⟨World.ownsRow_nil _ _ _ _, fun t ht => by cases ht⟩, ⟨World.ownsRow_nil _ _ _ _, fun t ht => by cases ht⟩, fun k hk => (by cases hk), rfl, rfl, rfl⟩, hf2'.out⟩
  case round =>
    obtain ⟨i, H, T6, T7, ho, hc, lo, lc, qo, qc, rfl, rfl, rfl, rfl, hi, hSt, hfw⟩ := hrel
    by_cases hlt : i < T.length
    · have e1 : decide ((i : Int) < (T.length : Int)) = true := by rw [decide_eq_true_eq]; omega
      have hii : (i : Int) < (T.length : Int) := by omega
      obtain ⟨t, ht⟩ : ∃ t, T[i]? = some t := ⟨T[i], List.getElem?_eq_getElem hlt⟩
      obtain ⟨b, off, c, he, hbl, c0, c1, hbd⟩ := (hP1.out.move hfw).prod ht
      simp only [Value.slice.injEq] at he
      obtain ⟨rfl, _, rfl⟩ := he
      have hl16 := hs2'.out t (List.mem_of_getElem? ht)
      obtain ⟨h0, tv, l⟩ := t
      simp only [] at c0 c1 hbd hl16
      obtain ⟨bo, bc, rfl⟩ := Src.form hbd
      obtain ⟨ax, hax⟩ : ∃ ax, ax = wr.heap.size := ⟨_, rfl⟩
      obtain ⟨wa, hwa⟩ : ∃ wa, wa = wr.alloc (.cells #[.int .i64 h0, .slice bo l.length bc] 37) := ⟨_, rfl⟩
      have hfa : Far (fun _ => False) wr wa := hwa ▸ (Far.refl _ wr).alloc _
      have hX : Bk wa ax 37 #[.int .i64 h0, .slice bo l.length bc] := hwa ▸ Bk.new hax
      have x0 : wa.cell? ⟨ax, 0, none⟩ = some (.int .i64 h0) := hX.cell 0
      have x1 : wa.cell? ⟨ax, 1, none⟩ = some (.slice bo l.length bc) := hX.cell 1
      have hXl := hX.lt
      have CL := Lib.hid (fun w' (hf : Far (fun _ => False) wa w') => clone_any (.slice bo l.length bc) l w' ((hbd.move hfa).move hf) hl16)
      have hSa := Lib.hid (hSt.move hfa)
      have hfx := Lib.hid (hfw.then hfa)
      have hX' := Lib.hid hX
      have hax' := Lib.hid hax
      have hwa' := Lib.hid hwa
      have ht' := Lib.hid ht
      have hlens := hSt.lens
      clear hSt hfw hfa hbd ht hbl hax hwa hX
      go_upto_region 8 with fail
      rw [← hax'.out, ← hwa'.out]
      clear c0 c1
      go_cut [10] (fun xv wc => ∃ (kX : Nat) (vo : Option Addr) (vc : Nat), xv = .pointer (some ⟨kX, 0, none⟩) ∧ Bk wc kX 37 #[.int .i64 h0, .slice vo l.length vc] ∧ wc.ownsRow 0 47 2 (.slice vo l.length vc) l.length (scells l) ∧ Far (fun _ => False) wa wc)
      case first =>
        have n0 : ax ≠ wa.heap.size := by omega
        have n0' : wa.heap.size ≠ ax := by omega
        go_region_held3 (fun w' => w'.cell? ⟨ax, 0, none⟩ = some (.int .i64 h0) ∧ w'.cell? ⟨ax, 1, none⟩ = some (.slice bo l.length bc)) (go_keep)
          (first
            | (go_at_call 25; refine (CL.out _ ?_).mono ?_; (first | exact (Far.refl _ wa).drew | exact ((Far.refl _ wa).alloc _).drew); rintro e w4 ⟨v4, rfl, ho4, hf4⟩; obtain ⟨vo, vc, rfl⟩ := Src.form (Src.own ho4); have FW4 := Lib.hid ((by first | exact (Far.refl _ wa).drew | exact ((Far.refl _ wa).alloc _).drew : Far (fun _ => False) wa _).then hf4); have r0 : w4.cell? ⟨ax, 0, none⟩ = some (.int .i64 h0) := (FW4.out.cell (p := ⟨ax, 0, none⟩) hXl).trans x0; have r1 : w4.cell? ⟨ax, 1, none⟩ = some (.slice bo l.length bc) := (FW4.out.cell (p := ⟨ax, 1, none⟩) hXl).trans x1; obtain ⟨hc4, hz4⟩ := far_cells hf4; (first | have ns4 := far_new hf4 | skip); have hs4 := FW4.out.size; have n4 : ax ≠ w4.heap.size := (by omega); have n4' : w4.heap.size ≠ ax := (by omega); have hf4K := Lib.hid hf4; have ho4' := Lib.hid (row_zero ho4); clear ho4 hf4))
        all_goals
          have hz1 := Lib.hid (Nat.le_refl wa.heap.size)
          clear hc4 hz4 hs4 n4 n4'
          go_wp2_with fail
          go_meet
          first
            | exact ⟨_, vo, vc, rfl, Bk.new rfl, row_far ho4'.out ((Far.refl (fun _ => False) _).alloc _) (fun _ _ h => h), FW4.out.alloc _⟩
            | exact ⟨_, vo, vc, rfl, bk_two (((Bk.new (w := wa) rfl).far' (drew_far _) id).far' hf4K.out id), row_two ho4'.out (((Bk.new (w := wa) rfl).far' (drew_far _) id).far' hf4K.out id) (fun e => prod_ne_sym e.symm), far_two FW4.out hz1.out⟩
      case rest =>
        obtain ⟨kX, vo, vc, rfl, hbX, hvr, hfc⟩ := hcut
        have hXc := hX'.out.far' hfc id
        have x0 : wc.cell? ⟨ax, 0, none⟩ = some (.int .i64 h0) := hXc.cell 0
        have x1 : wc.cell? ⟨ax, 1, none⟩ = some (.slice bo l.length bc) := hXc.cell 1
        have y0 : wc.cell? ⟨kX, 0, none⟩ = some (.int .i64 h0) := hbX.cell 0
        have y1 : wc.cell? ⟨kX, 1, none⟩ = some (.slice vo l.length vc) := hbX.cell 1
        have hSc := Lib.hid (hSa.out.move hfc)
        have hfxc := Lib.hid (hfx.out.then hfc)
        have hvr' := Lib.hid hvr
        have hszc : w1.heap.size ≤ wc.heap.size := hfxc.out.size
        obtain ⟨hlH, hl6, hl7⟩ := hlens
        clear hbX hvr hfc hXc
        by_cases hz : l.length = 0
        · have g0 : ((l.length : Int) == 0) = true := by simp [hz]
          obtain ⟨inf, iz, i1, i2, i3, i4, i5⟩ := info3 info_int
          have A1 := Lib.hid (hSc.out.hs.alloc (.cells #[.int .i64 h0] 3))
          have A2 := Lib.hid (World.news_of_block (w := wc.alloc (.cells #[.int .i64 h0] 3)) (cs := #[.int .i64 h0]) (t := 3) (fr := (0, 0)) (heap_alloc_new wc _))
          have A3 : ∀ u ∈ [Value.int .i64 h0], u.oneCell' = true := by simp [Value.oneCell']
          have A4 : H.length + 1 ≤ maxLen := by unfold maxLen; omega
          have A5 : (H.length + 1) * 8 ≤ 140737488355328 := by omega
          have A6 : w1.heap.size ≤ (wc.alloc (.cells #[.int .i64 h0] 3)).heap.size := by simp; omega
          have hz' := Lib.hid hz
          clear hz
          go_wp2_with (at_builtin; refine wpList_append_lies _ rfl _ _ 34 rfl w1.heap.size 3 inf _ 1 8 Try.underlying34 i1 i2 i3 i4 i5 (by decide) (.slice ho H.length hc) H.length _ rfl A1.out ⟨wc.heap.size, 0, none⟩ 1 1 _ rfl rfl A2.out A3 (by decide) A4 A5 A6 _ rfl ?_; intro fg fcap w7 ho7 hg7 hat7 hl7)
          have hR7 : Far (fun k => (Value.slice ho H.length hc).ownBlock = some k) wc w7 := ((Far.refl _ wc).alloc _).grown hg7 fun k _ e => e
          have hW7 := Lib.hid (hfxc.out.trans hR7 fun k hk e => by have := (hSc.out.hs.lt k e).1; omega)
          have hP7 := Lib.hid (hSc.out.push_h ht'.out hz'.out hR7 ho7)
          clear hR7 ho7 hg7 hat7 A1 A2 A3 A4 A5 A6
          go_wp2_with fail
          go_roundw
          case rel => exact ⟨i + 1, H ++ [h0], T6, T7, some ⟨fg, 0, none⟩, fcap, lo, lc, qo, qc, by simp, rfl, rfl, by go_num, by omega, by rw [show (H ++ [h0]).length = H.length + 1 by simp]; exact hP7.out, hW7.out⟩
          case measure => simp [intOf]; omega
        · have g0 : ((l.length : Int) == 0) = false := by simp; exact fun e => hz (by rw [e]; rfl)
          obtain ⟨inf, iz, i1, i2, i3, i4, i5⟩ := info3 info_prod
          have A2 := Lib.hid (World.news_of_block (w := wc.alloc (.cells #[.int .i64 h0, .slice vo l.length vc] 37)) (cs := #[.int .i64 h0, .slice vo l.length vc]) (t := 37) (fr := (0, 0)) (heap_alloc_new wc _))
          have A3 : ∀ u ∈ [Value.int .i64 h0, .slice vo l.length vc], u.oneCell' = true := by simp [Value.oneCell']
          have A6 : w1.heap.size ≤ (wc.alloc (.cells #[.int .i64 h0, .slice vo l.length vc] 37)).heap.size := by simp; omega
          by_cases hone : l.length = 1
          · have g1 : ((l.length : Int) == 1) = true := by simp [hone]
            have A1 := Lib.hid (hSc.out.ls.1.alloc (.cells #[.int .i64 h0, .slice vo l.length vc] 37))
            have A4 : T6.length + 1 ≤ maxLen := by unfold maxLen; omega
            have A5 : (T6.length + 1) * 32 ≤ 140737488355328 := by omega
            have hone' := Lib.hid hone
            clear hz hone
            go_wp2_with (at_builtin; refine wpList_append_lies _ rfl _ _ 22 rfl w1.heap.size 37 inf _ 2 32 Try.underlying22 i1 i2 i3 i4 i5 (by decide) (.slice lo T6.length lc) T6.length _ rfl A1.out ⟨wc.heap.size, 0, none⟩ 1 1 _ rfl rfl A2.out A3 (by decide) A4 A5 A6 _ rfl ?_; intro fg fcap w7 ho7 hg7 hat7 hl7)
            have hR7 : Far (fun k => (Value.slice lo T6.length lc).ownBlock = some k) wc w7 := ((Far.refl _ wc).alloc _).grown hg7 fun k _ e => e
            have hW7 := Lib.hid (hfxc.out.trans hR7 fun k hk e => by have := (hSc.out.ls.1.lt k e).1; omega)
            have hP7 := Lib.hid (hSc.out.push_l ht'.out hone'.out hvr'.out hR7 (hat7.imp id fun e => by rw [e]; simp) ho7)
            clear hR7 ho7 hg7 hat7 A1 A2 A3 A4 A5 A6
            go_wp2_with fail
            go_roundw
            case rel => exact ⟨i + 1, H, T6 ++ [(h0, .slice vo l.length vc, l)], T7, ho, hc, some ⟨fg, 0, none⟩, fcap, qo, qc, rfl, by simp, rfl, by go_num, by omega, by rw [show (T6 ++ [((h0, Value.slice vo l.length vc, l) : Tr)]).length = T6.length + 1 by simp]; exact hP7.out, hW7.out⟩
            case measure => simp [intOf]; omega
          · have g1 : ((l.length : Int) == 1) = false := by simp; omega
            have A1 := Lib.hid (hSc.out.ps.1.alloc (.cells #[.int .i64 h0, .slice vo l.length vc] 37))
            have A4 : T7.length + 1 ≤ maxLen := by unfold maxLen; omega
            have A5 : (T7.length + 1) * 32 ≤ 140737488355328 := by omega
            have htwo := Lib.hid (show 2 ≤ l.length by omega)
            clear hz hone
            go_wp2_with (at_builtin; refine wpList_append_lies _ rfl _ _ 22 rfl w1.heap.size 37 inf _ 2 32 Try.underlying22 i1 i2 i3 i4 i5 (by decide) (.slice qo T7.length qc) T7.length _ rfl A1.out ⟨wc.heap.size, 0, none⟩ 1 1 _ rfl rfl A2.out A3 (by decide) A4 A5 A6 _ rfl ?_; intro fg fcap w7 ho7 hg7 hat7 hl7)
            have hR7 : Far (fun k => (Value.slice qo T7.length qc).ownBlock = some k) wc w7 := ((Far.refl _ wc).alloc _).grown hg7 fun k _ e => e
            have hW7 := Lib.hid (hfxc.out.trans hR7 fun k hk e => by have := (hSc.out.ps.1.lt k e).1; omega)
            have hP7 := Lib.hid (hSc.out.push_p ht'.out htwo.out hvr'.out hR7 (hat7.imp id fun e => by rw [e]; simp) ho7)
            clear hR7 ho7 hg7 hat7 A1 A2 A3 A4 A5 A6
            go_wp2_with fail
            go_roundw
            case rel => exact ⟨i + 1, H, T6, T7 ++ [(h0, .slice vo l.length vc, l)], ho, hc, lo, lc, some ⟨fg, 0, none⟩, fcap, rfl, rfl, by simp, by go_num, by omega, by rw [show (T7 ++ [((h0, Value.slice vo l.length vc, l) : Tr)]).length = T7.length + 1 by simp]; exact hP7.out, hW7.out⟩
            case measure => simp [intOf]; omega
    · have e1 : decide ((i : Int) < (T.length : Int)) = false := by rw [decide_eq_false_iff_not]; omega
      have hin : i = T.length := by omega
      have hSt' := Lib.hid (hin ▸ hSt)
      have hfw' := Lib.hid hfw
      clear hSt hfw
      go_wp2_with fail
      go_ret3
      exact ⟨⟨_, _, _, w1.heap.size, H, T6, T7, rfl, hSt'.out⟩, hF'.out.then hfw'.out⟩
end
end Go.Proofs.Ytfgoghmhjbhbiaa
