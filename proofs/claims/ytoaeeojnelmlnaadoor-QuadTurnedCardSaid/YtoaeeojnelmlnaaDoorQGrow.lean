/-
  grow: the number of the leaf at a place, which is made if there is none.
-/
import Derived.Test.YtoaeeojnelmlnaaDoorQGrowM
namespace Go.Proofs.YtoaeeojnelmlnaaDoor
open Go.RowKit
set_option linter.unusedVariables false
set_option linter.unusedSimpArgs false
theorem node_there {w : World} {ns : List (Nat → Nat)} {g cap k q n : Nat} (h : w.ownsRow 0 162 4 (.slice (some ⟨g, 0, none⟩) n cap) ns.length (nrows ns).flatten) (hk : k < ns.length) (hq : q < 4) : ∃ v, w.cell? ⟨g, k * 4 + q, none⟩ = some v := by
  rcases h.2 with ⟨e, _⟩ | ⟨g', cap', cur, e, _⟩
  · cases e
  · cases e
    exact ⟨_, node_cell h (List.getElem?_eq_getElem hk) hq⟩
section
set_option maxHeartbeats 2000000
set_option maxRecDepth 100000
theorem grow_any {w : World} {B side lv root : Nat} {nv lvv : Value} {ns : List (Nat → Nat)} {A : Nat → Nat → Nat → Nat} {ps : List (Nat × Nat)} {M : Nat → Nat → Bool} (h : Qd w B side lv root nv lvv ns A ps M) (i j : Nat) (hi : i < 2 ^ lv) (hj : j < 2 ^ lv) :
    Calls Tryd.prog 97 #[.pointer (some ⟨B, 0, none⟩), .int .i64 i, .int .i64 j] w fun e w' => ∃ root' nv' lvv' ns' A' ps', e = .returned (.int .i64 (A' 0 i j : Nat)) ∧ A' 0 i j ≠ 0 ∧ Qd w' B side lv root' nv' lvv' ns' A' ps' M ∧ (∀ k, Qf B nv' lvv' k → Qf B nv lvv k ∨ w.heap.size ≤ k) ∧ Far (Qf B nv lvv) w w' ∧ (ps' = ps ∨ (ps' = ps ++ [(i, j)] ∧ A 0 i j = 0)) := by
  have h' := Lib.hid h
  have p1 : w.cell? ⟨B, 1, none⟩ = some (.int .i64 (lv : Nat)) := h.box.cell 1
  have p2 : w.cell? ⟨B, 2, none⟩ = some (.int .i64 (root : Nat)) := h.box.cell 2
  have hlv := h.lv4
  have hmany := h.many
  clear h
  go_enter Tryd.func97, Tryd.ntmps97
  go_upto_if 15 with fail
  go_cut [] (fun wc => ∃ root' nv' lvv' ns' A' ps', root' ≠ 0 ∧ Gw w wc B side lv nv lvv ns A ps M i j lv root' nv' lvv' ns' A' ps')
  case first =>
    by_cases hr : root = 0
    · subst hr
      cases lv with
      | zero =>
        have FL := fresh_leaf w B _ _ _ lvv nv ps.length _ h'.out.box h'.out.leaves (by omega)
        go_wp2_with fail
        refine FL.mono ?_
        rintro e w1 ⟨rfl, lv1, hB1, ho1, hsl, hf1⟩
        have q2 := hB1.free 2
        have q3 : w1.cell? ⟨B, 2, none⟩ = some (.int .i64 0) := hB1.cell 2
        have G := Lib.hid (Gw.root_leaf h'.out hi hj hB1 ho1 hsl hf1)
        clear hB1 ho1 hsl hf1 FL
        go_wp2_with fail
        go_meet
        obtain ⟨ns2, A2, g⟩ := G.out
        exact ⟨_, _, _, _, _, _, by omega, g⟩
      | succ l0 =>
        have FL := fresh_node w B _ _ _ nv lvv ns.length l0 _ h'.out.box h'.out.nodes (by omega)
        go_wp2_with fail
        refine FL.mono ?_
        rintro e w1 ⟨rfl, nv1, hB1, ho1, hsl, hf1⟩
        have q2 := hB1.free 2
        have q3 : w1.cell? ⟨B, 2, none⟩ = some (.int .i64 0) := hB1.cell 2
        have G := Lib.hid (Gw.root_node h'.out hi hj hB1 ho1 hsl hf1)
        clear hB1 ho1 hsl hf1 FL
        go_wp2_with fail
        go_meet
        obtain ⟨ns2, A2, g⟩ := G.out
        exact ⟨_, _, _, _, _, _, by omega, g⟩
    · have hr1 : ((root : Int) == 0) = false := by simp; omega
      have g := Lib.hid (Gw.start (w := w) (i := i) (j := j) h'.out hi hj hr)
      go_wp2_with fail
      go_meet
      exact ⟨_, _, _, _, _, _, hr, g.out⟩
  case rest =>
    obtain ⟨root', nv', lvv', ns', A', ps', hr, g⟩ := hcut
    clear p1 p2
    have p1 : wc.cell? ⟨B, 1, none⟩ = some (.int .i64 (lv : Nat)) := g.core.box.cell 1
    have p2 : wc.cell? ⟨B, 2, none⟩ = some (.int .i64 (root' : Nat)) := g.core.box.cell 2
    have hroot := g.core.tree.root
    have g' := Lib.hid g
    clear g
    go_wp2_with fail
    clear p1 p2
    obtain ⟨wo, hwo⟩ : ∃ wo, wo = wc := ⟨_, rfl⟩
    rw [← hwo] at g' ⊢
    clear hwo
    go_loopw [7, 8] (fun nn lvl wr => ∃ (l : Nat) (root' : Nat) (nv' lvv' : Value) (ns' : List (Nat → Nat)) (A' : Nat → Nat → Nat → Nat) (ps' : List (Nat × Nat)), l ≤ lv ∧ nn = .int .i64 (A' l (i / 2 ^ l) (j / 2 ^ l) : Nat) ∧ lvl = .int .i64 (l : Nat) ∧ Gw w wr B side lv nv lvv ns A ps M i j l root' nv' lvv' ns' A' ps') (fun _ lvl _ => (intOf lvl).toNat)
    case atStart => exact ⟨lv, _, _, _, _, _, _, Nat.le_refl _, by rw [(Nat.div_eq_zero_iff_lt (Nat.two_pow_pos _)).2 hi, (Nat.div_eq_zero_iff_lt (Nat.two_pow_pos _)).2 hj, hroot], rfl, g'.out⟩
    case round =>
      clear g' hroot hr
      obtain ⟨l, root', nv', lvv', ns', A', ps', hl, rfl, rfl, g⟩ := hrel
      cases l with
      | zero =>
        have R := Lib.hid (g.done h'.out)
        clear g
        go_wp2_with fail
        go_ret
        obtain ⟨r1, r2, r3, r4, r5⟩ := R.out
        exact ⟨_, _, _, _, _, _, by simp, r1, r2, r3, r4, r5⟩
      | succ l =>
        obtain ⟨x, hx⟩ : ∃ x, A' (l + 1) (i / 2 ^ (l + 1)) (j / 2 ^ (l + 1)) = x := ⟨_, rfl⟩
        have hx0 : x ≠ 0 := hx ▸ g.there
        obtain ⟨f, hf, hq⟩ := g.core.tree.step (i := i) (j := j) (l := l) (by rw [hx]; exact hx0)
        rw [hx] at hf
        rw [hx]
        have hnsl := (List.getElem?_eq_some_iff.1 hf).1
        obtain ⟨gn, cap, hnv, _⟩ := g.core.nodes.form (by omega)
        subst hnv
        have hcell : wr.cell? ⟨gn, (x - 1) * 4 + qd i j l, none⟩ = some (.int .i64 (A' l (i / 2 ^ l) (j / 2 ^ l) : Nat)) := by
          rw [← hq]
          exact node_cell g.core.nodes hf (qd_lt i j l)
        have p3 : wr.cell? ⟨B, 3, none⟩ = some (.slice (some ⟨gn, 0, none⟩) ns'.length cap) := g.core.box.cell 3
        have hqlt := qd_lt i j l
        have PT := fun w => part_any i j l (by omega) w
        have hx1 : IntKind.i64.wrap ((x : Int) - 1) = ((x - 1 : Nat) : Int) := by rw [IntKind.wrap_i64]; have := g.core.nfew; omega
        have hxl : x - 1 < ns'.length := hnsl
        rw [show ((l + 1 : Nat) : Int) = (l : Int) + 1 by omega] at PT ⊢
        have g' := Lib.hid g
        have hx' := Lib.hid hx
        clear hf hq g hx
        go_wp2_with fail
        refine (PT _).mono ?_
        rintro e w' ⟨rfl, n9, hW⟩
        have g2 := g'.out.still (w1 := w') (hW ▸ (Far.refl _ wr).drewN n9)
        have hcell' : w'.cell? ⟨gn, (x - 1) * 4 + qd i j l, none⟩ = some (.int .i64 (A' l (i / 2 ^ l) (j / 2 ^ l) : Nat)) := by rw [hW]; exact hcell
        have p3' : w'.cell? ⟨B, 3, none⟩ = some (.slice (some ⟨gn, 0, none⟩) ns'.length cap) := by rw [hW]; exact p3
        clear hcell p3 g' hW PT
        obtain ⟨y, hy⟩ : ∃ y, A' l (i / 2 ^ l) (j / 2 ^ l) = y := ⟨_, rfl⟩
        rw [hy] at hcell'
        have hl1 : ((l : Int) + 1 - 1) = (l : Int) := by omega
        by_cases hy0 : y = 0
        · subst hy0
          have hy' := Lib.hid hy
          have g3 := Lib.hid g2
          clear hy
          cases l with
          | zero =>
            have FL := fresh_leaf w' B _ _ _ lvv' _ ps'.length _ g2.core.box g2.core.leaves (by have := few_places g2.core.tree.nodup g2.core.small; omega)
            clear g2
            go_wp2_with fail
            refine FL.mono ?_
            rintro e w1 ⟨rfl, lv1, hB1, ho1, hsl, hf1⟩
            have q3 : w1.cell? ⟨B, 3, none⟩ = some (.slice (some ⟨gn, 0, none⟩) ns'.length cap) := hB1.cell 3
            have hgn : gn < w1.heap.size := by have := (g3.out.core.nodes.lt gn rfl).2; have := hf1.size; omega
            have hN1 : w1.ownsRow 0 162 4 (.slice (some ⟨gn, 0, none⟩) ns'.length cap) ns'.length (nrows ns').flatten := row_same g3.out.core.nodes fun k hk hlt => hf1.block k hlt (by
              rintro (e | e)
              · subst e; exact q_row_ne g3.out.core.box g3.out.core.nodes (by decide) hk
              · exact q_rows_ne g3.out.core.nodes g3.out.core.leaves (by decide) hk e)
            have hfz : w1.frozen? ⟨gn, (x - 1) * 4 + qd i j 0, none⟩ = false := hN1.frozenAt _
            obtain ⟨vc, hcc⟩ := node_there hN1 hxl hqlt
            have G := Lib.hid (g3.out.leaf_step (by omega) ⟨by have := Nat.lt_of_lt_of_le hi (Nat.pow_le_pow_right (show 0 < 2 by decide) hlv); simpa using this, by have := Nat.lt_of_lt_of_le hj (Nat.pow_le_pow_right (show 0 < 2 by decide) hlv); simpa using this⟩ (by simpa using hy'.out) rfl (by simpa using hx'.out) (by omega) hB1 ho1 hsl hf1)
            clear hB1 ho1 hsl hf1 FL hN1
            go_wp2_with fail
            go_roundw
            case rel =>
              obtain ⟨ns2, A2, g4, h4⟩ := G.out
              exact ⟨0, _, _, _, _, _, _, by omega, by simp [h4], rfl, g4⟩
            case measure => simp [intOf]
          | succ l =>
            have FL := fresh_node w' B _ _ _ _ lvv' ns'.length l _ g2.core.box g2.core.nodes (by have := g2.core.nfew; omega)
            clear g2
            rw [show ((l + 1 : Nat) : Int) = (l : Int) + 1 by omega] at FL
            go_wp2_with fail
            refine FL.mono ?_
            rintro e w1 ⟨rfl, nv1, hB1, ho1, hsl, hf1⟩
            obtain ⟨g1, cap1, rfl, _⟩ := ho1.form (by omega)
            have q3 : w1.cell? ⟨B, 3, none⟩ = some (.slice (some ⟨g1, 0, none⟩) (ns'.length + 1) cap1) := hB1.cell 3
            have hfz : w1.frozen? ⟨g1, (x - 1) * 4 + qd i j (l + 1), none⟩ = false := ho1.frozenAt _
            obtain ⟨vc, hcc⟩ := node_there (ns := ns' ++ [fun _ => 0]) (k := x - 1) (by rw [List.length_append, nrows_app]; exact ho1) (by simp; omega) hqlt
            have hxl1 : x - 1 < ns'.length + 1 := by omega
            have G := Lib.hid (g3.out.node_step (by omega) hy'.out hx'.out (by omega) hB1 ho1 hsl hf1)
            clear hB1 ho1 hsl hf1 FL
            go_wp2_with fail
            go_roundw
            case rel =>
              obtain ⟨ns2, A2, g4, h4⟩ := G.out
              exact ⟨l + 1, _, _, _, _, _, _, by omega, by simp [h4], by simp, g4⟩
            case measure => simp [intOf]; omega
        · have hd : ((y : Int) == 0) = false := by simp; omega
          have g3 := Lib.hid (g2.down (by omega) (by rw [hy]; exact hy0))
          have hy' := Lib.hid hy
          clear g2 hy
          go_wp2_with fail
          go_roundw
          case rel => exact ⟨l, _, _, _, _, _, _, by omega, by rw [hy'.out], rfl, g3.out⟩
          case measure => simp [intOf]
end
end Go.Proofs.YtoaeeojnelmlnaaDoor
