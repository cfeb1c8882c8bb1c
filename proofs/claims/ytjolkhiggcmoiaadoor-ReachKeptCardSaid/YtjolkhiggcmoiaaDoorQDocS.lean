/-
  The document's matrices: Wrong, Set, Turn.
-/
import Derived.Test.YtjolkhiggcmoiaaDoorQJoinD
import Derived.Test.YtjolkhiggcmoiaaDoorQAid
import Derived.Deep.RegionHeld3
import Derived.Deep.AppendLies
import Derived.StillTailTactics
import Derived.Deep.QuietTactic
import Derived.BigQuiet
namespace Go.Proofs.YtjolkhiggcmoiaaDoor
open Go.RowKit Go.Shelf
set_option linter.unusedVariables false
set_option linter.unusedSimpArgs false
def inS (s : Nat) (i : Int) : Bool := decide (0 ≤ i) && decide (i < (s : Int))
def wrE (s : Nat) (i j : Int) : Nat := if s = 0 then 1 else if (inS s i && inS s j) = true then 0 else 2
theorem wrE_ok {s : Nat} {i j : Int} (h : wrE s i j = 0) : s ≠ 0 ∧ (0 ≤ i ∧ i < (s : Int)) ∧ 0 ≤ j ∧ j < (s : Int) := by
  unfold wrE at h
  split at h
  · cases h
  · split at h
    · rename_i h0 h1
      unfold inS at h1
      simp only [Bool.and_eq_true, decide_eq_true_eq] at h1
      exact ⟨h0, h1.1, h1.2⟩
    · cases h
def turnL (L : List (Nat × Nat)) : List (Nat × Nat) := L.map fun x => (x.2, x.1)
theorem turnL_len (L : List (Nat × Nat)) : (turnL L).length = L.length := by simp [turnL]
theorem turnL_step {L : List (Nat × Nat)} {k a b : Nat} (h : L[k]? = some (a, b)) : turnL (L.take (k + 1)) = turnL (L.take k) ++ [(b, a)] := by
  unfold turnL
  rw [List.take_add_one, h, Option.toList_some, List.map_append]
  rfl
theorem turnL_mem {L : List (Nat × Nat)} {x : Nat × Nat} : x ∈ turnL L ↔ (x.2, x.1) ∈ L := by
  unfold turnL
  rw [List.mem_map]
  constructor
  · rintro ⟨y, hy, rfl⟩; exact hy
  · intro h; exact ⟨_, h, rfl⟩
section
set_option maxHeartbeats 8000000
set_option maxRecDepth 100000
theorem rwrong02_any (w : World) (s : Nat) (ao : Option Addr) (n cap : Nat) (i j : Int) : Calls Tryd.prog 56 #[.agg #[.int .i64 (s : Nat), .slice ao n cap], .int .i64 i, .int .i64 j] w fun e w' => e = .returned (.int .i64 (wrE s i j : Nat)) ∧ Far (fun _ => False) w w' := by
  obtain ⟨h3, hh3⟩ : ∃ h, h = w.heap.size := ⟨_, rfl⟩
  obtain ⟨W0, hW0⟩ : ∃ V, V = w.alloc (.cells #[.int .i64 (s : Nat), .slice ao n cap] 28) := ⟨_, rfl⟩
  have hF0 : Far (fun _ => False) w W0 := hW0 ▸ (Far.refl _ w).alloc _
  have hB3 : Bk W0 h3 28 #[.int .i64 (s : Nat), .slice ao n cap] := hW0 ▸ Bk.new hh3
  have c0 : W0.cell? ⟨h3, 0, none⟩ = some (.int .i64 (s : Nat)) := hB3.cell 0
  have c1 : W0.cell? ⟨h3, 1, none⟩ = some (.slice ao n cap) := hB3.cell 1
  have IN1 := rin_any s (.slice ao n cap) i W0
  have IN2 := Lib.hid (fun V => rin_any s (.slice ao n cap) j V)
  have hF0' := Lib.hid hF0
  have hB3' := Lib.hid hB3
  have hh3' := Lib.hid hh3
  have hW0' := Lib.hid hW0
  change Calls _ _ _ _ fun e w' => e = .returned (.bool (inS s i)) ∧ _ at IN1
  replace IN2 := Lib.hid (show ∀ V, Calls Tryd.prog 37 #[.agg #[.int .i64 (s : Nat), .slice ao n cap], .int .i64 j] V fun e w' => e = .returned (.bool (inS s j)) ∧ Far (fun _ => False) V w' from IN2.out)
  clear hF0 hB3 hh3 hW0
  by_cases h0 : s = 0
  · have e : wrE s i j = 1 := by unfold wrE; rw [if_pos h0]
    rw [e]
    have a0 : ((s : Int) == 0) = true := by simp; omega
    clear h0 e
    go_enter Tryd.func56, Tryd.ntmps56
    go_upto_region 1 with fail
    rw [← hh3'.out, ← hW0'.out]
    go_wp2_with fail
    go_ret
    exact ⟨rfl, hF0'.out⟩
  · have a0 := nat_beq0 h0
    obtain ⟨p, hp⟩ : ∃ p, inS s i = p := ⟨_, rfl⟩
    obtain ⟨q, hq⟩ : ∃ q, inS s j = q := ⟨_, rfl⟩
    have e : wrE s i j = if (p && q) = true then 0 else 2 := by unfold wrE; rw [if_neg h0, hp, hq]
    rw [e]
    rw [hp] at IN1
    rw [hq] at IN2
    clear h0 e hp hq
    cases p with
    | false =>
      rw [Bool.false_and, if_neg Bool.false_ne_true]
      go_enter Tryd.func56, Tryd.ntmps56
      go_upto_region 1 with fail
      rw [← hh3'.out, ← hW0'.out]
      go_wp2_with fail
      refine IN1.mono ?_
      rintro e w1 ⟨rfl, hf1⟩
      have hf1' := Lib.hid hf1
      clear IN1 hf1
      go_wp2_with fail
      go_ret
      exact ⟨rfl, hF0'.out.then hf1'.out⟩
    | true =>
      rw [Bool.true_and]
      cases q with
      | false =>
        rw [if_neg Bool.false_ne_true]
        go_enter Tryd.func56, Tryd.ntmps56
        go_upto_region 1 with fail
        rw [← hh3'.out, ← hW0'.out]
        go_wp2_with fail
        refine IN1.mono ?_
        rintro e w1 ⟨rfl, hf1⟩
        have IN3 := IN2.out w1
        have hB1 := hB3'.out.far' hf1 id
        have c0 : w1.cell? ⟨h3, 0, none⟩ = some (.int .i64 (s : Nat)) := hB1.cell 0
        have c1 : w1.cell? ⟨h3, 1, none⟩ = some (.slice ao n cap) := hB1.cell 1
        have hf1' := Lib.hid hf1
        clear IN1 hf1 hB1
        go_wp2_with fail
        refine IN3.mono ?_
        rintro e w2 ⟨rfl, hf2⟩
        have hf2' := Lib.hid hf2
        clear IN3 hf2
        go_wp2_with fail
        go_ret
        exact ⟨rfl, hF0'.out.then (hf1'.out.then hf2'.out)⟩
      | true =>
        rw [if_pos rfl]
        go_enter Tryd.func56, Tryd.ntmps56
        go_upto_region 1 with fail
        rw [← hh3'.out, ← hW0'.out]
        go_wp2_with fail
        refine IN1.mono ?_
        rintro e w1 ⟨rfl, hf1⟩
        have IN3 := IN2.out w1
        have hB1 := hB3'.out.far' hf1 id
        have c0 : w1.cell? ⟨h3, 0, none⟩ = some (.int .i64 (s : Nat)) := hB1.cell 0
        have c1 : w1.cell? ⟨h3, 1, none⟩ = some (.slice ao n cap) := hB1.cell 1
        have hf1' := Lib.hid hf1
        clear IN1 hf1 hB1
        go_wp2_with fail
        refine IN3.mono ?_
        rintro e w2 ⟨rfl, hf2⟩
        have hf2' := Lib.hid hf2
        clear IN3 hf2
        go_wp2_with fail
        go_ret
        exact ⟨rfl, hF0'.out.then (hf1'.out.then hf2'.out)⟩
theorem rset_any {w : World} {v : Value} {s : Nat} {M : Nat → Nat → Bool} (hm : Dm w v s M) (i j : Int) : Calls Tryd.prog 51 #[v, .int .i64 i, .int .i64 j] w fun e w' => ∃ (v' : Value) (mo : Bool), e = .returned (.tuple #[v', .bool mo, .int .i64 (wrE s i j : Nat)]) ∧ Dm w' v' s (if wrE s i j = 0 then putM M i.toNat j.toNat else M) ∧ (mo = true ↔ wrE s i j = 0 ∧ M i.toNat j.toNat = false) ∧ (v' = v ∨ Dn v' w.heap.size) ∧ Far (fun _ => False) w w' := by
  have hlenA := hm.len
  have haD := Lib.hid hm
  obtain ⟨ao, cap, rfl, hP, hcap, hs, hw⟩ := hm
  have hmA : ∀ x : Nat × Nat, x ∈ cellsL M s ↔ M x.1 x.2 = true := fun x => mem_cellsL hw
  have hrA := cellsK_rise M s s
  change (cellsL M s).Pairwise lexLt at hrA
  obtain ⟨L, hL⟩ : ∃ L, cellsL M s = L := ⟨_, rfl⟩
  rw [hL] at hP hcap hlenA hmA hrA haD ⊢
  obtain ⟨n, hn⟩ : ∃ n, L.length = n := ⟨_, rfl⟩
  rw [hn] at hcap hlenA haD ⊢
  obtain ⟨h3, hh3⟩ : ∃ h, h = w.heap.size := ⟨_, rfl⟩
  obtain ⟨h6, hh6⟩ : ∃ h, h = h3 + 1 := ⟨_, rfl⟩
  obtain ⟨W0, hW0⟩ : ∃ V, V = (w.alloc (.cells #[.int .i64 (s : Nat), .slice ao n cap] 28)).alloc (.cells #[.int .i64 0, .slice none 0 0] 28) := ⟨_, rfl⟩
  have hF0 : Far (fun _ => False) w W0 := hW0 ▸ ((Far.refl _ w).alloc _).alloc _
  have hB3 : Bk W0 h3 28 #[.int .i64 (s : Nat), .slice ao n cap] := hW0 ▸ (Bk.new hh3).alloc _
  have hB6 : Bk W0 h6 28 #[.int .i64 0, .slice none 0 0] := hW0 ▸ Bk.new (by simp [hh6, hh3])
  have n63 : h6 ≠ h3 := by omega
  have HB := Lib.hid (show ∀ V, Far (fun _ => False) W0 V → (V.cell? ⟨h3, 0, none⟩ = some (.int .i64 (s : Nat)) ∧ V.cell? ⟨h3, 1, none⟩ = some (.slice ao n cap)) ∧ V.cell? ⟨h6, 0, none⟩ = some (.int .i64 0) ∧ V.cell? ⟨h6, 1, none⟩ = some (.slice none 0 0) ∧ V.frozen? ⟨h6, 0, none⟩ = false ∧ V.frozen? ⟨h6, 1, none⟩ = false from fun V hf => ⟨⟨(hB3.far' hf id).cell 0, (hB3.far' hf id).cell 1⟩, (hB6.far' hf id).cell 0, (hB6.far' hf id).cell 1, (hB6.far' hf id).free 0, (hB6.far' hf id).free 1⟩)
  have WR := rwrong02_any W0 s ao n cap i j
  obtain ⟨⟨z30, z31⟩, _⟩ := HB.out W0 (Far.refl _ _)
  have hP' := Lib.hid (hP.move hF0)
  have hn' := Lib.hid hn
  have hmA' := Lib.hid hmA
  have hrA' := Lib.hid hrA
  have hw' := Lib.hid hw
  have hW0' := Lib.hid hW0
  have hF0' := Lib.hid hF0
  have hB6' := Lib.hid hB6
  have hh3' := Lib.hid hh3
  have hh6' := Lib.hid hh6
  have hlo := Lib.hid (show w.heap.size ≤ h6 by omega)
  clear hP hL hn hw hmA hrA hW0 hF0 hB3 hB6 hh3 hh6
  by_cases hE : wrE s i j = 0
  · obtain ⟨h0, ⟨i0, i1⟩, j0, j1⟩ := wrE_ok hE
    rw [hE] at WR ⊢
    rw [if_pos rfl]
    obtain ⟨i, rfl⟩ : ∃ k : Nat, i = (k : Int) := ⟨i.toNat, by omega⟩
    obtain ⟨j, rfl⟩ : ∃ k : Nat, j = (k : Int) := ⟨j.toNat, by omega⟩
    rw [Int.toNat_natCast, Int.toNat_natCast]
    clear hE h0 i0 j0
    go_enter Tryd.func51, Tryd.ntmps51
    go_upto_region 1 with fail
    rw [← hh3'.out, ← hh6'.out, ← hW0'.out]
    go_wp2_with fail
    refine WR.mono ?_
    rintro e W1 ⟨rfl, hf1⟩
    obtain ⟨⟨y30, y31⟩, _⟩ := HB.out W1 hf1
    obtain ⟨hb, hhb⟩ : ∃ h, h = W1.heap.size := ⟨_, rfl⟩
    obtain ⟨W2, hW2⟩ : ∃ V, V = W1.alloc (.cells #[.int .i64 (i : Nat), .int .i64 (j : Nat)] 61) := ⟨_, rfl⟩
    have hf2 : Far (fun _ => False) W1 W2 := hW2 ▸ (Far.refl _ W1).alloc _
    have hBb : Bk W2 hb 61 #[.int .i64 (i : Nat), .int .i64 (j : Nat)] := hW2 ▸ Bk.new hhb
    have hPB : PL W2 (some ⟨hb, 0, none⟩) [(i, j)] := fun _ => ⟨hb, 0, rfl, hBb.lt, fun k hk => by
      obtain rfl : k = 0 := by simp at hk; omega
      exact ⟨hBb.cell 0, hBb.cell 1⟩⟩
    have MG := merge_any L [(i, j)] hrA'.out (List.pairwise_singleton _ _) n 1 hn'.out.symm rfl (by omega) ao (some ⟨hb, 0, none⟩) cap 1 W2 (hP'.out.move (hf1.then hf2)) hPB
    have hf1' := Lib.hid (hf1.then hf2)
    have hhb' := Lib.hid hhb
    have hW2' := Lib.hid hW2
    clear WR hf1 z30 z31 hf2 hBb hPB hhb hW2
    go_wp2_with fail
    rw [← hhb'.out, ← hW2'.out]
    refine MG.mono ?_
    rintro e W3 ⟨v, mo, rfl, o, hown, hr, hm, hmo, hlen, hf3⟩
    obtain ⟨vo, vc, rfl⟩ := q_form hown
    obtain ⟨⟨x30, x31⟩, x60, x61, fr0, fr1⟩ := HB.out W3 (hf1'.out.then hf3)
    obtain ⟨m, hm9⟩ : ∃ n, n = o.length := ⟨_, rfl⟩
    rw [← hm9] at hown ⊢
    have hm9' := Lib.hid hm9
    have hown' := Lib.hid hown
    have hr' := Lib.hid hr
    have hm' := Lib.hid hm
    have hmo' := Lib.hid hmo
    have hf3' := Lib.hid hf3
    clear MG hown hr hm hmo hlen hf3 hm9 y30 y31
    go_wp2_with fail
    (try simp only [Exit.inBlock, Exit.then])
    have hB9 := hB6'.out.far' (hf1'.out.then hf3'.out) id
    obtain ⟨w7, hw7⟩ : ∃ V, V = (W3.setCell ⟨h6, 0, none⟩ (.int .i64 (s : Nat))).setCell ⟨h6, 1, none⟩ (.slice vo m vc) := ⟨_, rfl⟩
    have hB7 : Bk w7 h6 28 #[.int .i64 (s : Nat), .slice vo m vc] := hw7 ▸ (hB9.set 0 _).set 1 _
    have hf67 : Far (fun q => q = h6) W3 w7 := hw7 ▸ ((Far.refl (fun q => q = h6) W3).set ⟨h6, 0, none⟩ _ fun _ => rfl).set ⟨h6, 1, none⟩ _ fun _ => rfl
    have hf7 : Far (fun _ => False) w w7 := (hF0'.out.then (hf1'.out.then hf3'.out)).trans hf67 fun q hq e => by have := hlo.out; omega
    have c0 : w7.cell? ⟨h6, 0, none⟩ = some (.int .i64 (s : Nat)) := hB7.cell 0
    have c1 : w7.cell? ⟨h6, 1, none⟩ = some (.slice vo m vc) := hB7.cell 1
    have ho7 := row_same hown'.out fun q hq hl => hf67.block q hl fun e => by
      obtain ⟨_, _, cs, hb2⟩ := own_type hown'.out hq
      rw [e] at hb2
      have := bk_type hb2 hB9
      revert this; decide
    have hD : Dm w7 (.agg #[.int .i64 (s : Nat), .slice vo m vc]) s (putM M i j) := Dm.own hs (fun r c h => by
      unfold putM at h
      simp only [Bool.or_eq_true, Bool.and_eq_true, decide_eq_true_eq] at h
      rcases h with h | ⟨rfl, rfl⟩
      · exact hw'.out r c h
      · omega) hr'.out (fun x => by
        rw [hm'.out x, hmA'.out x, List.mem_singleton]
        unfold putM
        simp only [Bool.or_eq_true, Bool.and_eq_true, decide_eq_true_eq]
        rw [Prod.ext_iff]) ho7 hm9'.out
    have hDn7 : Dn (.agg #[.int .i64 (s : Nat), .slice vo m vc]) w.heap.size := fun _ _ _ _ e a ha => by
      cases e
      subst ha
      obtain ⟨h1, _⟩ := own_type hown'.out (k := a.block) rfl
      have := (hF0'.out.then hf1'.out).size
      omega
    have hmoo : mo = true ↔ M i j = false := by
      rw [hmo'.out]
      constructor
      · rintro ⟨x, h1, h2⟩
        obtain rfl := List.mem_singleton.1 h1
        cases h : M i j with
        | false => rfl
        | true => exact absurd ((hmA'.out (i, j)).2 h) h2
      · intro h
        refine ⟨(i, j), List.mem_singleton.2 rfl, fun h9 => ?_⟩
        have := (hmA'.out (i, j)).1 h9
        rw [h] at this
        cases this
    rw [← hw7]
    exact bodyPost_ret (v := .tuple #[.agg #[.int .i64 (s : Nat), .slice vo m vc], .bool mo, .int .i64 0]) (by simp [results, Tryd.f51, go_sem, c0, c1]) rfl ⟨_, _, rfl, hD, ⟨fun h => ⟨trivial, hmoo.1 h⟩, fun h => hmoo.2 h.2⟩, .inr hDn7, hf7⟩
  · obtain ⟨E, hEE⟩ : ∃ E, wrE s i j = E := ⟨_, rfl⟩
    rw [hEE] at WR hE ⊢
    rw [if_neg hE]
    have E0 := nat_beq0 hE
    have E1 : ((E : Int) != 0) = true := by simp; omega
    have E2 : ¬ (E : Int) = 0 := by omega
    have hE' := Lib.hid hE
    clear hEE hE
    go_enter Tryd.func51, Tryd.ntmps51
    go_upto_region 1 with fail
    rw [← hh3'.out, ← hh6'.out, ← hW0'.out]
    go_wp2_with fail
    refine WR.mono ?_
    rintro e W1 ⟨rfl, hf1⟩
    obtain ⟨⟨y30, y31⟩, x60, x61, fr0, fr1⟩ := HB.out W1 hf1
    have hf1' := Lib.hid hf1
    clear WR hf1 z30 z31
    go_wp2_with fail
    (try simp only [Exit.inBlock, Exit.then])
    have hB9 := hB6'.out.far' hf1'.out id
    obtain ⟨w7, hw7⟩ : ∃ V, V = (W1.setCell ⟨h6, 0, none⟩ (.int .i64 (s : Nat))).setCell ⟨h6, 1, none⟩ (.slice ao n cap) := ⟨_, rfl⟩
    have hB7 : Bk w7 h6 28 #[.int .i64 (s : Nat), .slice ao n cap] := hw7 ▸ (hB9.set 0 _).set 1 _
    have hf67 : Far (fun q => q = h6) W1 w7 := hw7 ▸ ((Far.refl (fun q => q = h6) W1).set ⟨h6, 0, none⟩ _ fun _ => rfl).set ⟨h6, 1, none⟩ _ fun _ => rfl
    have hf7 : Far (fun _ => False) w w7 := (hF0'.out.then hf1'.out).trans hf67 fun q hq e => by have := hlo.out; omega
    have c0 : w7.cell? ⟨h6, 0, none⟩ = some (.int .i64 (s : Nat)) := hB7.cell 0
    have c1 : w7.cell? ⟨h6, 1, none⟩ = some (.slice ao n cap) := hB7.cell 1
    rw [← hw7]
    exact bodyPost_ret (v := .tuple #[.agg #[.int .i64 (s : Nat), .slice ao n cap], .bool false, .int .i64 (E : Nat)]) (by simp [results, Tryd.f51, go_sem, c0, c1]) rfl ⟨_, _, rfl, haD.out.move hf7, ⟨fun h => (by cases h), fun h => absurd h.1 hE'.out⟩, .inl rfl, hf7⟩
end
end Go.Proofs.YtjolkhiggcmoiaaDoor
