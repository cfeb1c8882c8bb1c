/-
  The document's Fit, Mul, One; the program's Mul, One whatever they are asked.
-/
import Derived.Test.YthgjnnghokmjdaaDoorQRefP1
namespace Go.Proofs.YthgjnnghokmjdaaDoor
open Go.RowKit Go.Shelf
set_option linter.unusedVariables false
set_option linter.unusedSimpArgs false
section
set_option maxHeartbeats 2000000
set_option maxRecDepth 100000
theorem rMul_any {w : World} {va vb : Value} {sa sb : Nat} {A B : Nat → Nat → Bool} (ha : Dm w va sa A) (hb : Dm w vb sb B) : Calls Tryd.prog 33 #[va, vb] w fun e w' => ∃ v, e = .returned (.tuple #[v, .int .i64 (mulE sa sb : Nat)]) ∧ Dm w' v (mulSd sa sb) (mulMM sa sb A B) ∧ Dn v w.heap.size ∧ Far (fun _ => False) w w' := by
  have ha' := Lib.hid ha
  have hb' := Lib.hid hb
  obtain ⟨aoa, ca, rfl, _, _, hs1, _⟩ := ha
  obtain ⟨aob, cb, rfl, _, _, hs2, _⟩ := hb
  obtain ⟨na, hna⟩ : ∃ n, (cellsL A sa).length = n := ⟨_, rfl⟩
  obtain ⟨nb, hnb⟩ : ∃ n, (cellsL B sb).length = n := ⟨_, rfl⟩
  rw [hna] at ha' ⊢
  rw [hnb] at hb' ⊢
  clear hna hnb
  obtain ⟨h2, hh2⟩ : ∃ h, h = w.heap.size := ⟨_, rfl⟩
  obtain ⟨h3, hh3⟩ : ∃ h, h = h2 + 1 := ⟨_, rfl⟩
  obtain ⟨h4, hh4⟩ : ∃ h, h = h3 + 1 := ⟨_, rfl⟩
  obtain ⟨h5, hh5⟩ : ∃ h, h = h4 + 1 := ⟨_, rfl⟩
  obtain ⟨Wz, hWz⟩ : ∃ V, V = ((w.alloc (.cells #[.int .i64 (sa : Nat), .slice aoa na ca] 28)).alloc (.cells #[.int .i64 (sb : Nat), .slice aob nb cb] 28)).alloc (.cells #[.int .i64 0, .slice none 0 0] 28) := ⟨_, rfl⟩
  obtain ⟨W0, hW0⟩ : ∃ V, V = Wz.alloc (.cells #[.int .i64 (sa : Nat), .slice aoa na ca, .int .i64 (sb : Nat), .slice aob nb cb] 28) := ⟨_, rfl⟩
  have hzz : Wz.heap.size = h5 := by rw [hWz]; simp [hh5, hh4, hh3, hh2]
  have hFz : Far (fun _ => False) w Wz := hWz ▸ (((Far.refl _ w).alloc _).alloc _).alloc _
  have hF0 : Far (fun _ => False) w W0 := hW0 ▸ hFz.alloc _
  have hz2 : Bk Wz h2 28 #[.int .i64 (sa : Nat), .slice aoa na ca] := hWz ▸ ((Bk.new hh2).alloc _).alloc _
  have hz3 : Bk Wz h3 28 #[.int .i64 (sb : Nat), .slice aob nb cb] := hWz ▸ (Bk.new (by simp [hh3, hh2])).alloc _
  have hz4 : Bk Wz h4 28 #[.int .i64 0, .slice none 0 0] := hWz ▸ Bk.new (by simp [hh4, hh3, hh2])
  have hf0 : Far (fun _ => False) Wz W0 := hW0 ▸ (Far.refl _ Wz).alloc _
  have hB5 : Bk W0 h5 28 #[.int .i64 (sa : Nat), .slice aoa na ca, .int .i64 (sb : Nat), .slice aob nb cb] := hW0 ▸ Bk.new hzz.symm
  have FT := rfit_any W0 (some ⟨h5, 0, none⟩) 2 2 (by omega) (fun k => if k = 0 then sa else sb) (fun _ => ⟨h5, 0, rfl, hB5.lt, fun k hk => by
    rw [Nat.zero_add, hB5.cell (k * 2)]
    rcases (show k = 0 ∨ k = 1 by omega) with rfl | rfl <;> rfl⟩)
  have z20 : Wz.cell? ⟨h2, 0, none⟩ = some (.int .i64 (sa : Nat)) := hz2.cell 0
  have z21 : Wz.cell? ⟨h2, 1, none⟩ = some (.slice aoa na ca) := hz2.cell 1
  have z30 : Wz.cell? ⟨h3, 0, none⟩ = some (.int .i64 (sb : Nat)) := hz3.cell 0
  have z31 : Wz.cell? ⟨h3, 1, none⟩ = some (.slice aob nb cb) := hz3.cell 1
  change Calls _ _ _ _ fun e w' => e = .returned (.int .i64 (mulE sa sb : Nat)) ∧ _ at FT
  have e2 := Lib.hid hh2
  have e3 := Lib.hid hh3
  have e4 := Lib.hid hh4
  have e5 := Lib.hid hh5
  have hWz' := Lib.hid hWz
  have hW0' := Lib.hid hW0
  have hzz' := Lib.hid hzz
  have hF0' := Lib.hid hF0
  have hf0' := Lib.hid hf0
  have hz2' := Lib.hid hz2
  have hz3' := Lib.hid hz3
  have hz4' := Lib.hid hz4
  clear hh2 hh3 hh4 hh5 hWz hW0 hzz hFz hF0 hf0 hz2 hz3 hz4 hB5
  by_cases hE : mulE sa sb = 0
  · have hsd : mulSd sa sb = sa := if_pos hE
    have hmm : mulMM sa sb A B = mulM A B := if_pos hE
    obtain ⟨hss, _⟩ := mulE_ok hE
    rw [hE] at FT ⊢
    rw [hsd, hmm]
    have hss' := Lib.hid hss
    clear hE hsd hmm hss
    go_enter Tryd.func33, Tryd.ntmps33
    go_upto_region 1 with fail
    rw [← e2.out, ← e3.out, ← e4.out, ← hWz'.out]
    go_wp2_with fail
    rw [hzz'.out, ← hW0'.out]
    refine FT.mono ?_
    rintro e w2 ⟨rfl, hf2⟩
    have hf02 := Lib.hid (hf0'.out.then hf2)
    have hf2' := Lib.hid (hF0'.out.then hf2)
    have hb2 := hz2'.out.far' hf02.out id
    have hb3 := hz3'.out.far' hf02.out id
    have hb4 := hz4'.out.far' hf02.out id
    have d0 : w2.cell? ⟨h4, 0, none⟩ = some (.int .i64 0) := hb4.cell 0
    have d1 : w2.cell? ⟨h4, 1, none⟩ = some (.slice none 0 0) := hb4.cell 1
    have f0 := hb4.free 0
    have f1 := hb4.free 1
    have hb4' := Lib.hid hb4
    have TM := rtimes_any (ha'.out.move hf2'.out) (by have := hb'.out.move hf2'.out; rw [← hss'.out] at this; exact this)
    have b20 : w2.cell? ⟨h2, 0, none⟩ = some (.int .i64 (sa : Nat)) := hb2.cell 0
    have b21 : w2.cell? ⟨h2, 1, none⟩ = some (.slice aoa na ca) := hb2.cell 1
    have b30 : w2.cell? ⟨h3, 0, none⟩ = some (.int .i64 (sa : Nat)) := by rw [hb3.cell 0, hss'.out]; rfl
    have b31 : w2.cell? ⟨h3, 1, none⟩ = some (.slice aob nb cb) := hb3.cell 1
    clear hb2 hb3 hb4 hf2 FT z20 z21 z30 z31 d0 d1 f0 f1
    go_wp2_with fail
    refine TM.mono ?_
    rintro e w3 ⟨v, rfl, hD, hDn, hf3⟩
    have hDD := Lib.hid hD
    obtain ⟨ao3, cap3, rfl, _⟩ := hD
    have hb43 := hb4'.out.far' hf3 id
    have d0 : w3.cell? ⟨h4, 0, none⟩ = some (.int .i64 0) := hb43.cell 0
    have d1 : w3.cell? ⟨h4, 1, none⟩ = some (.slice none 0 0) := hb43.cell 1
    have f0 := hb43.free 0
    have f1 := hb43.free 1
    obtain ⟨m, hm⟩ : ∃ m, (cellsL (mulM A B) sa).length = m := ⟨_, rfl⟩
    rw [hm] at hDD hDn ⊢
    have hb43' := Lib.hid hb43
    have hDn' := Lib.hid hDn
    have hf3' := Lib.hid hf3
    clear TM hb43 hDn hf3 hm b20 b21 b30 b31
    go_wp2_with fail
    (try simp only [Exit.inBlock, Exit.then])
    obtain ⟨w7, hw7⟩ : ∃ V, V = (w3.setCell ⟨h4, 0, none⟩ (.int .i64 (sa : Nat))).setCell ⟨h4, 1, none⟩ (.slice ao3 m cap3) := ⟨_, rfl⟩
    have hB7 : Bk w7 h4 28 #[.int .i64 (sa : Nat), .slice ao3 m cap3] := hw7 ▸ (hb43'.out.set 0 _).set 1 _
    have hf67 : Far (fun q => q = h4) w3 w7 := hw7 ▸ ((Far.refl (fun q => q = h4) w3).set ⟨h4, 0, none⟩ _ fun _ => rfl).set ⟨h4, 1, none⟩ _ fun _ => rfl
    have k2 := e2.out
    have k3 := e3.out
    have k4 := e4.out
    have k5 := hz4'.out.lt
    have k6 := hf02.out.size
    have hf7 : Far (fun _ => False) w w7 := (hf2'.out.then hf3'.out).trans hf67 fun q hq e => by omega
    have c0 : w7.cell? ⟨h4, 0, none⟩ = some (.int .i64 (sa : Nat)) := hB7.cell 0
    have c1 : w7.cell? ⟨h4, 1, none⟩ = some (.slice ao3 m cap3) := hB7.cell 1
    have hD7 : Dm w7 (.agg #[.int .i64 (sa : Nat), .slice ao3 m cap3]) sa (mulM A B) := by
      have hDn := hDn'.out
      obtain ⟨ao4, cap4, e9, hP, r⟩ := hDD.out
      cases e9
      exact ⟨_, _, rfl, hP.kept hf67 (fun a ha hl e => by have := hDn _ _ _ _ rfl a ha; omega), r⟩
    have hDn7 : Dn (.agg #[.int .i64 (sa : Nat), .slice ao3 m cap3]) w.heap.size := fun s9 a9 n9 c9 e9 a ha => Nat.le_trans hf2'.out.size (hDn'.out s9 a9 n9 c9 e9 a ha)
    rw [← hw7]
    exact bodyPost_ret (v := .tuple #[.agg #[.int .i64 (sa : Nat), .slice ao3 m cap3], .int .i64 0]) (by simp [results, Tryd.f33, go_sem, c0, c1]) rfl ⟨_, rfl, hD7, hDn7, hf7⟩
  · have hsd : mulSd sa sb = 0 := if_neg hE
    have hmm : mulMM sa sb A B = zeroM := if_neg hE
    rw [hsd, hmm]
    obtain ⟨E, hEE⟩ : ∃ E, mulE sa sb = E := ⟨_, rfl⟩
    rw [hEE] at hE FT ⊢
    have he1 : ((E : Int) != 0) = true := by simp; omega
    clear hE hsd hmm hEE
    go_enter Tryd.func33, Tryd.ntmps33
    go_upto_region 1 with fail
    rw [← e2.out, ← e3.out, ← e4.out, ← hWz'.out]
    go_wp2_with fail
    rw [hzz'.out, ← hW0'.out]
    refine FT.mono ?_
    rintro e w2 ⟨rfl, hf2⟩
    have hf02 := Lib.hid (hf0'.out.then hf2)
    have hf2' := Lib.hid (hF0'.out.then hf2)
    have hb2 := hz2'.out.far' hf02.out id
    have hb3 := hz3'.out.far' hf02.out id
    have hb4 := hz4'.out.far' hf02.out id
    have d0 : w2.cell? ⟨h4, 0, none⟩ = some (.int .i64 0) := hb4.cell 0
    have d1 : w2.cell? ⟨h4, 1, none⟩ = some (.slice none 0 0) := hb4.cell 1
    have f0 := hb4.free 0
    have f1 := hb4.free 1
    have hb4' := Lib.hid hb4
    clear hb2 hb3 hb4 hf2 FT z20 z21 z30 z31
    go_wp2_with fail
    (try simp only [Exit.inBlock, Exit.then])
    obtain ⟨w7, hw7⟩ : ∃ V, V = (w2.setCell ⟨h4, 0, none⟩ (.int .i64 0)).setCell ⟨h4, 1, none⟩ (.slice none 0 0) := ⟨_, rfl⟩
    have hB7 : Bk w7 h4 28 #[.int .i64 0, .slice none 0 0] := hw7 ▸ (hb4'.out.set 0 _).set 1 _
    have hf67 : Far (fun q => q = h4) w2 w7 := hw7 ▸ ((Far.refl (fun q => q = h4) w2).set ⟨h4, 0, none⟩ _ fun _ => rfl).set ⟨h4, 1, none⟩ _ fun _ => rfl
    have k2 := e2.out
    have k3 := e3.out
    have k4 := e4.out
    have hf7 : Far (fun _ => False) w w7 := hf2'.out.trans hf67 fun q hq e => by omega
    have c0 : w7.cell? ⟨h4, 0, none⟩ = some (.int .i64 0) := hB7.cell 0
    have c1 : w7.cell? ⟨h4, 1, none⟩ = some (.slice none 0 0) := hB7.cell 1
    rw [← hw7]
    exact bodyPost_ret (v := .tuple #[.agg #[.int .i64 0, .slice none 0 0], .int .i64 (E : Nat)]) (by simp [results, Tryd.f33, go_sem, c0, c1]) rfl ⟨_, rfl, Dm.none _, Dn.none _, hf7⟩
end
end Go.Proofs.YthgjnnghokmjdaaDoor
