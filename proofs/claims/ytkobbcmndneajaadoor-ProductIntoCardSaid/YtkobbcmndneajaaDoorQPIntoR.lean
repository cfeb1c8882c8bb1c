/-
  The document's Into (layer 3).
-/
import Derived.Test.YtkobbcmndneajaaDoorQJoinD
import Derived.Test.YtkobbcmndneajaaDoorQPInto
import Derived.Test.YtkobbcmndneajaaDoorQTimes2
import Derived.Deep.RegionHeld3
namespace Go.Proofs.YtkobbcmndneajaaDoor
open Go.RowKit Go.Shelf
set_option linter.unusedVariables false
set_option linter.unusedSimpArgs false

section
set_option maxHeartbeats 8000000
set_option maxRecDepth 100000
theorem rPInto_any {w : World} {vc va vb : Value} {sc p q : Nat} {C A B : Nat → Nat → Bool} (hc : Dm w vc sc C) (ha : Dm w va p A) (hb : Dm w vb q B) : Calls Tryd.prog 28 #[vc, va, vb] w fun e w' => ∃ (v : Value) (mo : Bool), e = .returned (.tuple #[v, .bool mo, .int .i64 (pinE sc p q : Nat)]) ∧ Dm w' v sc (if pinE sc p q = 0 then joinM C (mulM A B) else C) ∧ (mo = true ↔ pinE sc p q = 0 ∧ ∃ r c, mulM A B r c = true ∧ C r c = false) ∧ (v = vc ∨ Dn v w.heap.size) ∧ Far (fun _ => False) w w' := by
  have hcD := hc
  have haD := ha
  have hbD := hb
  obtain ⟨aoc, cc, rfl, _, _, hsc, _⟩ := hc
  obtain ⟨aoa, ca, rfl, _, _, hsa, _⟩ := ha
  obtain ⟨aob, cb, rfl, _, _, hsb, _⟩ := hb
  obtain ⟨nc, hnc⟩ : ∃ n, (cellsL C sc).length = n := ⟨_, rfl⟩
  obtain ⟨na, hna⟩ : ∃ n, (cellsL A p).length = n := ⟨_, rfl⟩
  obtain ⟨nb, hnb⟩ : ∃ n, (cellsL B q).length = n := ⟨_, rfl⟩
  rw [hnc] at hcD ⊢
  rw [hna] at haD ⊢
  rw [hnb] at hbD ⊢
  clear hnc hna hnb
  obtain ⟨h3, hh3⟩ : ∃ h, h = w.heap.size := ⟨_, rfl⟩
  obtain ⟨h4, hh4⟩ : ∃ h, h = h3 + 1 := ⟨_, rfl⟩
  obtain ⟨h5, hh5⟩ : ∃ h, h = h4 + 1 := ⟨_, rfl⟩
  obtain ⟨h6, hh6⟩ : ∃ h, h = h5 + 1 := ⟨_, rfl⟩
  obtain ⟨W0, hW0⟩ : ∃ V, V = (((w.alloc (.cells #[.int .i64 (sc : Nat), .slice aoc nc cc] 28)).alloc (.cells #[.int .i64 (p : Nat), .slice aoa na ca] 28)).alloc (.cells #[.int .i64 (q : Nat), .slice aob nb cb] 28)).alloc (.cells #[.int .i64 0, .slice none 0 0] 28) := ⟨_, rfl⟩
  have hF0 : Far (fun _ => False) w W0 := hW0 ▸ ((((Far.refl _ w).alloc _).alloc _).alloc _).alloc _
  have hB3 : Bk W0 h3 28 #[.int .i64 (sc : Nat), .slice aoc nc cc] := hW0 ▸ (((Bk.new hh3).alloc _).alloc _).alloc _
  have hB4 : Bk W0 h4 28 #[.int .i64 (p : Nat), .slice aoa na ca] := hW0 ▸ ((Bk.new (by simp [hh4, hh3])).alloc _).alloc _
  have hB5 : Bk W0 h5 28 #[.int .i64 (q : Nat), .slice aob nb cb] := hW0 ▸ (Bk.new (by simp [hh5, hh4, hh3])).alloc _
  have hB6 : Bk W0 h6 28 #[.int .i64 0, .slice none 0 0] := hW0 ▸ Bk.new (by simp [hh6, hh5, hh4, hh3])
  have n63 : h6 ≠ h3 := by omega
  have n64 : h6 ≠ h4 := by omega
  have n65 : h6 ≠ h5 := by omega
  have HB := Lib.hid (show ∀ V, Far (fun _ => False) W0 V → (V.cell? ⟨h3, 0, none⟩ = some (.int .i64 (sc : Nat)) ∧ V.cell? ⟨h3, 1, none⟩ = some (.slice aoc nc cc) ∧ V.cell? ⟨h4, 0, none⟩ = some (.int .i64 (p : Nat)) ∧ V.cell? ⟨h4, 1, none⟩ = some (.slice aoa na ca) ∧ V.cell? ⟨h5, 0, none⟩ = some (.int .i64 (q : Nat)) ∧ V.cell? ⟨h5, 1, none⟩ = some (.slice aob nb cb)) ∧ V.cell? ⟨h6, 0, none⟩ = some (.int .i64 0) ∧ V.cell? ⟨h6, 1, none⟩ = some (.slice none 0 0) ∧ V.frozen? ⟨h6, 0, none⟩ = false ∧ V.frozen? ⟨h6, 1, none⟩ = false from fun V hf => ⟨⟨(hB3.far' hf id).cell 0, (hB3.far' hf id).cell 1, (hB4.far' hf id).cell 0, (hB4.far' hf id).cell 1, (hB5.far' hf id).cell 0, (hB5.far' hf id).cell 1⟩, (hB6.far' hf id).cell 0, (hB6.far' hf id).cell 1, (hB6.far' hf id).free 0, (hB6.far' hf id).free 1⟩)
  obtain ⟨h7, hh7⟩ : ∃ h, h = W0.heap.size := ⟨_, rfl⟩
  obtain ⟨W9, hW9⟩ : ∃ V, V = W0.alloc (.cells #[.int .i64 (sc : Nat), .slice aoc nc cc, .int .i64 (p : Nat), .slice aoa na ca, .int .i64 (q : Nat), .slice aob nb cb] 28) := ⟨_, rfl⟩
  have hf09 : Far (fun _ => False) W0 W9 := hW9 ▸ (Far.refl _ W0).alloc _
  have hB7 : Bk W9 h7 28 #[.int .i64 (sc : Nat), .slice aoc nc cc, .int .i64 (p : Nat), .slice aoa na ca, .int .i64 (q : Nat), .slice aob nb cb] := hW9 ▸ Bk.new hh7
  have FT := rfit_any W9 (some ⟨h7, 0, none⟩) 3 3 (by omega) (fun k => if k = 0 then sc else if k = 1 then p else q) (fun _ => ⟨h7, 0, rfl, hB7.lt, fun k hk => by
    rw [Nat.zero_add, hB7.cell (k * 2)]
    rcases (show k = 0 ∨ k = 1 ∨ k = 2 by omega) with rfl | rfl | rfl <;> rfl⟩)
  change Calls _ _ _ _ fun e w' => e = .returned (.int .i64 (pinE sc p q : Nat)) ∧ _ at FT
  have hzz' := Lib.hid hh7.symm
  have hW9' := Lib.hid hW9
  have hf09' := Lib.hid hf09
  clear hh7 hW9 hf09 hB7
  have hW0' := Lib.hid hW0
  have hF0' := Lib.hid hF0
  have hB6' := Lib.hid hB6
  have e3 := Lib.hid hh3
  have e4 := Lib.hid hh4
  have e5 := Lib.hid hh5
  have e6 := Lib.hid hh6
  have hlo := Lib.hid (show w.heap.size ≤ h6 by omega)
  have hcD' := Lib.hid hcD
  have haD' := Lib.hid haD
  have hbD' := Lib.hid hbD
  clear hW0 hF0 hB3 hB4 hB5 hB6 hh3 hh4 hh5 hh6 hcD haD hbD
  by_cases hE : pinE sc p q = 0
  · obtain ⟨h0, hsp, hpq⟩ := pinE_ok hE
    rw [hE] at FT ⊢
    rw [if_pos rfl]
    subst hsp
    subst hpq
    have hnz := Lib.hid h0
    clear hE h0
    obtain ⟨⟨z30, z31, z40, z41, z50, z51⟩, _⟩ := HB.out W0 (Far.refl _ _)
    go_enter Tryd.func28, Tryd.ntmps28
    go_upto_region 1 with fail
    rw [← e3.out, ← e4.out, ← e5.out, ← e6.out, ← hW0'.out]
    go_wp2_with fail
    rw [hzz'.out, ← hW9'.out]
    refine FT.mono ?_
    rintro e w1 ⟨rfl, hf1⟩
    have hf1' := Lib.hid (hf09'.out.then hf1)
    clear FT hf1 z30 z31 z40 z41 z50 z51
    obtain ⟨⟨y30, y31, y40, y41, y50, y51⟩, _⟩ := HB.out w1 hf1'.out
    have hfd := Lib.hid ((hf1'.out).then (Far.refl (fun _ => False) w1).drew)
    have RP := rtimes_any (haD'.out.move (hF0'.out.then hfd.out)) (hbD'.out.move (hF0'.out.then hfd.out))
    go_upto_region 4 with fail
    clear y30 y31 y40 y41 y50 y51
    go_region_held3 (fun V => V.cell? ⟨h3, 0, none⟩ = some (.int .i64 (sc : Nat)) ∧ V.cell? ⟨h3, 1, none⟩ = some (.slice aoc nc cc) ∧ V.cell? ⟨h4, 0, none⟩ = some (.int .i64 (sc : Nat)) ∧ V.cell? ⟨h4, 1, none⟩ = some (.slice aoa na ca) ∧ V.cell? ⟨h5, 0, none⟩ = some (.int .i64 (sc : Nat)) ∧ V.cell? ⟨h5, 1, none⟩ = some (.slice aob nb cb)) (first | exact (HB.out _ hf9.out).1 | exact (HB.out _ hf8.out).1 | exact (HB.out _ hfd.out).1 | go_keep)
      (first
        | (go_at_call 67; (with_reducible refine (rjoin_any (hcD'.out.move (hF0'.out.then hf8.out)) hD8.out).mono ?_); rintro e w9 ⟨v9, mo, rfl, hD9, hmo, hor, hf⟩; have hor' := Lib.hid (hor.imp id fun h => (fun s ao n cap e a ha => Nat.le_trans (hF0'.out.then hf8.out).size (h s ao n cap e a ha) : Dn v9 w.heap.size)); clear hor; have hf9 := Lib.hid (hf8.out.then hf); have hmo' := Lib.hid hmo; have hD9' := Lib.hid hD9; obtain ⟨vo, vcap, rfl, _⟩ := hD9; obtain ⟨⟨c30, c31, c40, c41, c50, c51⟩, d0, d1, f0, f1⟩ := HB.out w9 hf9.out; obtain ⟨K, hK⟩ : ∃ K, (if pairE sc (sc) = 0 then joinM C (mulM A B) else C) = K := ⟨_, rfl⟩; rw [hK] at hD9' hor' ⊢; have hK' := Lib.hid hK; obtain ⟨m, hm⟩ : ∃ m, (cellsL K sc).length = m := ⟨_, rfl⟩; rw [hm] at hD9' hor' ⊢; obtain ⟨E9, hE9⟩ : ∃ E, pairE sc (sc) = E := ⟨_, rfl⟩; rw [hE9]; have hE9' := Lib.hid hE9; clear hf hmo hK hm hE9)
        | (go_at_call 86; (with_reducible refine RP.mono ?_); rintro e w8 ⟨v8, rfl, hD8x, _, hf⟩; have hf8 := Lib.hid (hfd.out.then hf); have hD8 := Lib.hid hD8x; obtain ⟨ao8, cap8, rfl, _⟩ := hD8x; clear RP hf))
    go_wp2_with fail
    (try simp only [Exit.inBlock, Exit.then])
    have hB9 := hB6'.out.far' hf9.out id
    obtain ⟨w7, hw7⟩ : ∃ V, V = (w9.setCell ⟨h6, 0, none⟩ (.int .i64 (sc : Nat))).setCell ⟨h6, 1, none⟩ (.slice vo m vcap) := ⟨_, rfl⟩
    have hB7 : Bk w7 h6 28 #[.int .i64 (sc : Nat), .slice vo m vcap] := hw7 ▸ (hB9.set 0 _).set 1 _
    have hf67 : Far (fun q => q = h6) w9 w7 := hw7 ▸ ((Far.refl (fun q => q = h6) w9).set ⟨h6, 0, none⟩ _ fun _ => rfl).set ⟨h6, 1, none⟩ _ fun _ => rfl
    have hf7 : Far (fun _ => False) w w7 := (hF0'.out.then hf9.out).trans hf67 fun q hq e => by have := hlo.out; omega
    have c0 : w7.cell? ⟨h6, 0, none⟩ = some (.int .i64 (sc : Nat)) := hB7.cell 0
    have c1 : w7.cell? ⟨h6, 1, none⟩ = some (.slice vo m vcap) := hB7.cell 1
    have hD7 := hD9'.out.box hB9 hf67
    have hE9 := hE9'.out
    have hp0 : pairE sc (sc) = 0 := (by unfold pairE; rw [if_neg (by have := hnz.out; omega), if_pos rfl])
    rw [hp0] at hE9
    have hK := hK'.out
    rw [if_pos hp0] at hK
    have hmo := hmo'.out
    rw [hp0] at hmo
    rw [← hw7, ← hE9, hK]
    exact bodyPost_ret (v := .tuple #[.agg #[.int .i64 (sc : Nat), .slice vo m vcap], .bool mo, .int .i64 0]) (by simp [results, Tryd.f28, go_sem, c0, c1]) rfl ⟨_, _, rfl, hD7, ⟨fun h => ⟨trivial, (hmo.1 h).2⟩, fun h => hmo.2 ⟨rfl, h.2⟩⟩, hor'.out, hf7⟩
  · rw [if_neg hE]
    have hE' := Lib.hid hE
    obtain ⟨E, hEE⟩ : ∃ E, pinE sc p q = E := ⟨_, rfl⟩
    rw [hEE] at FT hE hE' ⊢
    have E0 := nat_beq0 hE
    have E1 : ((E : Int) != 0) = true := by simp; omega
    have E2 : ¬ (E : Int) = 0 := by omega
    clear hE hEE
    obtain ⟨⟨z30, z31, z40, z41, z50, z51⟩, _⟩ := HB.out W0 (Far.refl _ _)
    go_enter Tryd.func28, Tryd.ntmps28
    go_upto_region 1 with fail
    rw [← e3.out, ← e4.out, ← e5.out, ← e6.out, ← hW0'.out]
    go_wp2_with fail
    rw [hzz'.out, ← hW9'.out]
    refine FT.mono ?_
    rintro e w1 ⟨rfl, hf1⟩
    have hf1' := Lib.hid (hf09'.out.then hf1)
    clear FT hf1 z30 z31 z40 z41 z50 z51
    obtain ⟨⟨y30, y31, y40, y41, y50, y51⟩, x60, x61, fr0, fr1⟩ := HB.out w1 hf1'.out
    go_wp2_with fail
    (try simp only [Exit.inBlock, Exit.then])
    have hB9 := hB6'.out.far' (hf1'.out) id
    obtain ⟨w7, hw7⟩ : ∃ V, V = (w1.setCell ⟨h6, 0, none⟩ (.int .i64 (sc : Nat))).setCell ⟨h6, 1, none⟩ (.slice aoc nc cc) := ⟨_, rfl⟩
    have hB7 : Bk w7 h6 28 #[.int .i64 (sc : Nat), .slice aoc nc cc] := hw7 ▸ (hB9.set 0 _).set 1 _
    have hf67 : Far (fun q => q = h6) w1 w7 := hw7 ▸ ((Far.refl (fun q => q = h6) w1).set ⟨h6, 0, none⟩ _ fun _ => rfl).set ⟨h6, 1, none⟩ _ fun _ => rfl
    have hf7 : Far (fun _ => False) w w7 := (hF0'.out.then (hf1'.out)).trans hf67 fun q hq e => by have := hlo.out; omega
    have c0 : w7.cell? ⟨h6, 0, none⟩ = some (.int .i64 (sc : Nat)) := hB7.cell 0
    have c1 : w7.cell? ⟨h6, 1, none⟩ = some (.slice aoc nc cc) := hB7.cell 1
    rw [← hw7]
    exact bodyPost_ret (v := .tuple #[.agg #[.int .i64 (sc : Nat), .slice aoc nc cc], .bool false, .int .i64 (E : Nat)]) (by simp [results, Tryd.f28, go_sem, c0, c1]) rfl ⟨_, _, rfl, hcD'.out.move hf7, ⟨fun h => (by cases h), fun h => absurd h.1 hE'.out⟩, .inl rfl, hf7⟩
end
end Go.Proofs.YtkobbcmndneajaaDoor
