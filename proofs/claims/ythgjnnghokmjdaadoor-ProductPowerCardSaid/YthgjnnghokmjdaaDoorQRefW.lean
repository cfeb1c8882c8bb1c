/-
  The document's Power.
-/
import Derived.Test.YthgjnnghokmjdaaDoorQRefO
import Derived.Test.YthgjnnghokmjdaaDoorQPPower
namespace Go.Proofs.YthgjnnghokmjdaaDoor
open Go.RowKit Go.Shelf
set_option linter.unusedVariables false
set_option linter.unusedSimpArgs false
section
set_option maxHeartbeats 4000000
set_option maxRecDepth 100000
/-- What Power answers for a matrix that is there. -/
def PowAt (s : Nat) (A : Nat → Nat → Bool) (n : Nat) : Prop := ∀ (w : World) (va : Value), Dm w va s A → Calls Tryd.prog 45 #[va, .int .i64 (n : Nat)] w fun e w' => ∃ v, e = .returned (.tuple #[v, .int .i64 0]) ∧ Dm w' v s (powM A s n) ∧ Dn v w.heap.size ∧ Far (fun _ => False) w w'
theorem rpower_zero {s : Nat} {A : Nat → Nat → Bool} (s1 : 1 ≤ s) : PowAt s A 0 := by
  intro w va ha
  obtain ⟨aoa, ca, rfl, _, _, hs, _⟩ := ha
  obtain ⟨na, hna⟩ : ∃ n, (cellsL A s).length = n := ⟨_, rfl⟩
  rw [hna]
  clear hna
  obtain ⟨h2, hh2⟩ : ∃ h, h = w.heap.size := ⟨_, rfl⟩
  obtain ⟨h4, hh4⟩ : ∃ h, h = h2 + 1 := ⟨_, rfl⟩
  obtain ⟨W0, hW0⟩ : ∃ V, V = (w.alloc (.cells #[.int .i64 (s : Nat), .slice aoa na ca] 28)).alloc (.cells #[.int .i64 0, .slice none 0 0] 28) := ⟨_, rfl⟩
  have hF0 : Far (fun _ => False) w W0 := hW0 ▸ ((Far.refl _ w).alloc _).alloc _
  have hB2 : Bk W0 h2 28 #[.int .i64 (s : Nat), .slice aoa na ca] := hW0 ▸ (Bk.new hh2).alloc _
  have hB4 : Bk W0 h4 28 #[.int .i64 0, .slice none 0 0] := hW0 ▸ Bk.new (by simp [hh4, hh2])
  have b20 : W0.cell? ⟨h2, 0, none⟩ = some (.int .i64 (s : Nat)) := hB2.cell 0
  have hs0 : ((s : Int) == 0) = false := by simp; omega
  have RO := rone_side s s1 hs W0
  have hh2' := Lib.hid hh2
  have hh4' := Lib.hid hh4
  have hW0' := Lib.hid hW0
  have hF0' := Lib.hid hF0
  have hB4' := Lib.hid hB4
  clear hh2 hh4 hW0 hF0 hB2 hB4
  go_enter Tryd.func45, Tryd.ntmps45
  go_upto_region 1 with fail
  rw [← hh2'.out, ← hh4'.out, ← hW0'.out]
  go_wp2_with fail
  refine RO.mono ?_
  rintro e w3 ⟨v, rfl, hD, hDn, hf3⟩
  have hDD := Lib.hid hD
  obtain ⟨ao3, cap3, rfl, _⟩ := hD
  obtain ⟨m, hm⟩ : ∃ m, (cellsL (oneM s) s).length = m := ⟨_, rfl⟩
  rw [hm] at hDD hDn ⊢
  have hb43 := hB4'.out.far' hf3 id
  have d0 : w3.cell? ⟨h4, 0, none⟩ = some (.int .i64 0) := hb43.cell 0
  have d1 : w3.cell? ⟨h4, 1, none⟩ = some (.slice none 0 0) := hb43.cell 1
  have f0 := hb43.free 0
  have f1 := hb43.free 1
  have hb43' := Lib.hid hb43
  have hDn' := Lib.hid hDn
  have hf3' := Lib.hid hf3
  clear RO hb43 hDn hf3 hm b20
  go_wp2_with fail
  (try simp only [Exit.inBlock, Exit.then])
  obtain ⟨w7, hw7⟩ : ∃ V, V = (w3.setCell ⟨h4, 0, none⟩ (.int .i64 (s : Nat))).setCell ⟨h4, 1, none⟩ (.slice ao3 m cap3) := ⟨_, rfl⟩
  have hB7 : Bk w7 h4 28 #[.int .i64 (s : Nat), .slice ao3 m cap3] := hw7 ▸ (hb43'.out.set 0 _).set 1 _
  have hf67 : Far (fun q => q = h4) w3 w7 := hw7 ▸ ((Far.refl (fun q => q = h4) w3).set ⟨h4, 0, none⟩ _ fun _ => rfl).set ⟨h4, 1, none⟩ _ fun _ => rfl
  have k2 := hh2'.out
  have k4 := hh4'.out
  have k5 := hB4'.out.lt
  have hf7 : Far (fun _ => False) w w7 := (hF0'.out.then hf3'.out).trans hf67 fun q hq e => by omega
  have c0 : w7.cell? ⟨h4, 0, none⟩ = some (.int .i64 (s : Nat)) := hB7.cell 0
  have c1 : w7.cell? ⟨h4, 1, none⟩ = some (.slice ao3 m cap3) := hB7.cell 1
  have hD7 : Dm w7 (.agg #[.int .i64 (s : Nat), .slice ao3 m cap3]) s (powM A s 0) := by
    have hDn := hDn'.out
    obtain ⟨ao4, cap4, e9, hP, r⟩ := hDD.out
    cases e9
    exact ⟨_, _, rfl, hP.kept hf67 (fun a ha hl e => by have := hDn _ _ _ _ rfl a ha; omega), r⟩
  have hDn7 : Dn (.agg #[.int .i64 (s : Nat), .slice ao3 m cap3]) w.heap.size := fun s9 a9 n9 c9 e9 a ha => Nat.le_trans hF0'.out.size (hDn'.out s9 a9 n9 c9 e9 a ha)
  rw [← hw7]
  exact bodyPost_ret (v := .tuple #[.agg #[.int .i64 (s : Nat), .slice ao3 m cap3], .int .i64 0]) (by simp [results, Tryd.f45, go_sem, c0, c1]) rfl ⟨_, rfl, hD7, hDn7, hf7⟩
theorem rpower_step {s n : Nat} {A : Nat → Nat → Bool} (s1 : 1 ≤ s) (h0 : 0 < n) (hn : n ≤ 9223372036854775807) (IH : PowAt s A (n / 2)) : PowAt s A n := by
  intro w va ha
  have hh := Lib.hid ha
  obtain ⟨aoa, ca, rfl, _, _, hs, hwa⟩ := ha
  obtain ⟨na, hna⟩ : ∃ n, (cellsL A s).length = n := ⟨_, rfl⟩
  rw [hna] at hh ⊢
  clear hna
  obtain ⟨k, hk⟩ : ∃ k, n / 2 = k := ⟨_, rfl⟩
  obtain ⟨r, hr⟩ : ∃ r, n % 2 = r := ⟨_, rfl⟩
  rw [hk] at IH
  have hnk : n = k + k + r := by omega
  have hr2 : r = 0 ∨ r = 1 := by omega
  obtain ⟨h2, hh2⟩ : ∃ h, h = w.heap.size := ⟨_, rfl⟩
  obtain ⟨h4, hh4⟩ : ∃ h, h = h2 + 1 := ⟨_, rfl⟩
  obtain ⟨W0, hW0⟩ : ∃ V, V = (w.alloc (.cells #[.int .i64 (s : Nat), .slice aoa na ca] 28)).alloc (.cells #[.int .i64 0, .slice none 0 0] 28) := ⟨_, rfl⟩
  have hF0 : Far (fun _ => False) w W0 := hW0 ▸ ((Far.refl _ w).alloc _).alloc _
  have hB2 : Bk W0 h2 28 #[.int .i64 (s : Nat), .slice aoa na ca] := hW0 ▸ (Bk.new hh2).alloc _
  have hB4 : Bk W0 h4 28 #[.int .i64 0, .slice none 0 0] := hW0 ▸ Bk.new (by simp [hh4, hh2])
  have b20 : W0.cell? ⟨h2, 0, none⟩ = some (.int .i64 (s : Nat)) := hB2.cell 0
  have b21 : W0.cell? ⟨h2, 1, none⟩ = some (.slice aoa na ca) := hB2.cell 1
  have hs0 : ((s : Int) == 0) = false := by simp; omega
  have hn0 : ((n : Int) == 0) = false := by simp; omega
  have hnn : ¬ (n : Int) < 0 := by omega
  have hti : Int.tdiv (n : Int) 2 = (k : Int) := by rw [Int.tdiv_eq_ediv_of_nonneg (by omega)]; omega
  have hhi : (n : Int) / 2 = (k : Int) := by omega
  have hmo : Int.tmod (n : Int) 2 = (r : Int) := by rw [Int.tmod_eq_emod_of_nonneg (by omega)]; omega
  have hwk : IntKind.i64.wrap (k : Int) = (k : Int) := by rw [IntKind.wrap_i64]; omega
  have PW := IH W0 _ (hh.out.move hF0)
  have hh2' := Lib.hid hh2
  have hh4' := Lib.hid hh4
  have hW0' := Lib.hid hW0
  have hF0' := Lib.hid hF0
  have hB2' := Lib.hid hB2
  have hB4' := Lib.hid hB4
  have hnk' := Lib.hid hnk
  have hwa' := Lib.hid hwa
  clear hh2 hh4 hW0 hF0 hB2 hB4 hk hr hnk hwa IH
  go_enter Tryd.func45, Tryd.ntmps45
  go_upto_region 1 with fail
  rw [← hh2'.out, ← hh4'.out, ← hW0'.out]
  go_wp2_with fail
  refine PW.mono ?_
  rintro e w3 ⟨v, rfl, hD, hDn, hf3⟩
  have hD3 := Lib.hid hD
  obtain ⟨ao3, cap3, rfl, _⟩ := hD
  obtain ⟨m3, hm⟩ : ∃ m, (cellsL (powM A s k) s).length = m := ⟨_, rfl⟩
  rw [hm] at hD3 ⊢
  clear PW hm hDn b20 b21
  obtain ⟨h6, hh6⟩ : ∃ h, h = w3.heap.size := ⟨_, rfl⟩
  obtain ⟨W3, hW3⟩ : ∃ V, V = w3.alloc (.cells #[.int .i64 (s : Nat), .slice ao3 m3 cap3] 28) := ⟨_, rfl⟩
  have hf33 : Far (fun _ => False) w3 W3 := hW3 ▸ (Far.refl _ w3).alloc _
  have hB6 : Bk W3 h6 28 #[.int .i64 (s : Nat), .slice ao3 m3 cap3] := hW3 ▸ Bk.new hh6
  have hf03 := hf3.then hf33
  have hB23 := Lib.hid (hB2'.out.far' hf03 id)
  have hB43 := Lib.hid (hB4'.out.far' hf03 id)
  have hfw3 := Lib.hid (hF0'.out.then hf03)
  have n46 := Lib.hid (show h4 < h6 ∧ w.heap.size ≤ h6 from ⟨by rw [hh6]; exact (hB4'.out.far' hf3 id).lt, by rw [hh6]; exact (hF0'.out.then hf3).size⟩)
  have c60 : W3.cell? ⟨h6, 0, none⟩ = some (.int .i64 (s : Nat)) := hB6.cell 0
  have c61 : W3.cell? ⟨h6, 1, none⟩ = some (.slice ao3 m3 cap3) := hB6.cell 1
  have TM := rtimes_any (hD3.out.move hf33) (hD3.out.move hf33)
  rw [powM_add hs hwa'.out] at TM
  have hh6' := Lib.hid hh6
  have hW3' := Lib.hid hW3
  have hB6' := Lib.hid hB6
  clear hh6 hW3 hB6 hf3 hf33 hf03 hD3
  go_upto_region 8 with fail
  rw [← hW3'.out, ← hh6'.out]
  go_wp2_with fail
  refine TM.mono ?_
  rintro e w4 ⟨v, rfl, hD, hDn, hf4⟩
  have hD4 := Lib.hid hD
  obtain ⟨ao4, cap4, rfl, _⟩ := hD
  obtain ⟨m4, hm⟩ : ∃ m, (cellsL (powM A s (k + k)) s).length = m := ⟨_, rfl⟩
  rw [hm] at hD4 hDn ⊢
  have hDn4 := Lib.hid hDn
  have hB64 := Lib.hid (hB6'.out.far' hf4 id)
  have hB24 := Lib.hid (hB23.out.far' hf4 id)
  have hB44 := Lib.hid (hB43.out.far' hf4 id)
  have hfw4 := Lib.hid (hfw3.out.then hf4)
  have h6z := Lib.hid (show h6 < W3.heap.size from hB6'.out.lt)
  have c60 : w4.cell? ⟨h6, 0, none⟩ = some (.int .i64 (s : Nat)) := hB64.out.cell 0
  have c61 : w4.cell? ⟨h6, 1, none⟩ = some (.slice ao3 m3 cap3) := hB64.out.cell 1
  have fr0 := hB64.out.free 0
  have fr1 := hB64.out.free 1
  have hW3z := Lib.hid (show w.heap.size ≤ W3.heap.size from hfw3.out.size)
  clear TM hm hDn hf4 hB23 hB43 hfw3 hB6'
  obtain ⟨W5, hw5⟩ : ∃ V, V = (w4.setCell ⟨h6, 0, none⟩ (.int .i64 (s : Nat))).setCell ⟨h6, 1, none⟩ (.slice ao4 m4 cap4) := ⟨_, rfl⟩
  have hB5 : Bk W5 h6 28 #[.int .i64 (s : Nat), .slice ao4 m4 cap4] := hw5 ▸ (hB64.out.set 0 _).set 1 _
  have hF5 : Far (fun q => q = h6) w4 W5 := hw5 ▸ ((Far.refl (fun q => q = h6) w4).set ⟨h6, 0, none⟩ _ fun _ => rfl).set ⟨h6, 1, none⟩ _ fun _ => rfl
  have hD5 : Dm W5 (.agg #[.int .i64 (s : Nat), .slice ao4 m4 cap4]) s (powM A s (k + k)) := by
    have hDn := hDn4.out
    obtain ⟨aoz, capz, e9, hP, r9⟩ := hD4.out
    cases e9
    exact ⟨_, _, rfl, hP.kept hF5 (fun a ha hl e => by have h1 := hDn _ _ _ _ rfl a ha; have e : a.block = h6 := e; have h2 := h6z.out; omega), r9⟩
  have m46 := n46.out
  have hk2 := hh2'.out
  have hk4 := hh4'.out
  have hfw5 : Far (fun _ => False) w W5 := hfw4.out.trans hF5 fun q hq e => by omega
  have hB25 := hB24.out.far' hF5 (by omega)
  have hB45 := hB44.out.far' hF5 (by omega)
  have hD5' := Lib.hid hD5
  have hfw5' := Lib.hid hfw5
  have hB25' := Lib.hid hB25
  have hB45' := Lib.hid hB45
  have hB65' := Lib.hid hB5
  have hw5' := Lib.hid hw5
  have n45 : h4 ≠ h6 := by omega
  have n54 : h6 ≠ h4 := by omega
  have n25 : h2 ≠ h6 := by omega
  have n52 : h6 ≠ h2 := by omega
  clear hD5 hfw5 hB25 hB45 hB5 hF5 hw5 m46 hk2 hk4
  go_upto_region 9 with fail
  rw [← hw5'.out]
  clear c60 c61 fr0 fr1
  rcases hr2 with rfl | rfl
  · have hpw := Lib.hid (show powM A s n = powM A s (k + k) by rw [hnk'.out, Nat.add_zero])
    have hDn5 := hDn4
    have hz3 := h6z.out
    have hz4 := hW3z.out
    have q0 : W5.cell? ⟨h6, 0, none⟩ = some (.int .i64 (s : Nat)) := (hB65'.out).cell 0
    have q1 : W5.cell? ⟨h6, 1, none⟩ = some (.slice ao4 m4 cap4) := (hB65'.out).cell 1
    have d0 : W5.cell? ⟨h4, 0, none⟩ = some (.int .i64 0) := (hB45'.out).cell 0
    have d1 : W5.cell? ⟨h4, 1, none⟩ = some (.slice none 0 0) := (hB45'.out).cell 1
    have f0 := (hB45'.out).free 0
    have f1 := (hB45'.out).free 1
    go_wp2_with fail
    (try simp only [Exit.inBlock, Exit.then])
    obtain ⟨w7, hwz⟩ : ∃ V, V = (W5.setCell ⟨h4, 0, none⟩ (.int .i64 (s : Nat))).setCell ⟨h4, 1, none⟩ (.slice ao4 m4 cap4) := ⟨_, rfl⟩
    have hBz : Bk w7 h4 28 #[.int .i64 (s : Nat), .slice ao4 m4 cap4] := hwz ▸ (hB45'.out.set 0 _).set 1 _
    have hFz : Far (fun q => q = h4) W5 w7 := hwz ▸ ((Far.refl (fun q => q = h4) W5).set ⟨h4, 0, none⟩ _ fun _ => rfl).set ⟨h4, 1, none⟩ _ fun _ => rfl
    have k2 := hh2'.out
    have k4 := hh4'.out
    have k46 := n46.out
    have hf7 : Far (fun _ => False) w w7 := (hfw5'.out).trans hFz fun q hq e => by omega
    have c0 : w7.cell? ⟨h4, 0, none⟩ = some (.int .i64 (s : Nat)) := hBz.cell 0
    have c1 : w7.cell? ⟨h4, 1, none⟩ = some (.slice ao4 m4 cap4) := hBz.cell 1
    have hD7 : Dm w7 (.agg #[.int .i64 (s : Nat), .slice ao4 m4 cap4]) s (powM A s (k + k)) := by
      have hDn := hDn4.out
      obtain ⟨aoz, capz, e9, hP, r9⟩ := hD5'.out
      cases e9
      exact ⟨_, _, rfl, hP.kept hFz (fun a ha hl e => by have h1 := hDn _ _ _ _ rfl a ha; have e : a.block = h4 := e; omega), r9⟩
    have hDn7 : Dn (.agg #[.int .i64 (s : Nat), .slice ao4 m4 cap4]) w.heap.size := fun s9 a9 n9 c9 e9 a ha => by have := hDn4.out s9 a9 n9 c9 e9 a ha; omega
    rw [← hwz]
    exact bodyPost_ret (v := .tuple #[.agg #[.int .i64 (s : Nat), .slice ao4 m4 cap4], .int .i64 0]) (by simp [results, Tryd.f45, go_sem, c0, c1]) rfl ⟨_, rfl, by rw [hpw.out]; exact hD7, hDn7, hf7⟩
  · have hpw := Lib.hid (show powM A s n = powM A s (k + k + 1) by rw [hnk'.out])
    have b20 : W5.cell? ⟨h2, 0, none⟩ = some (.int .i64 (s : Nat)) := hB25'.out.cell 0
    have b21 : W5.cell? ⟨h2, 1, none⟩ = some (.slice aoa na ca) := hB25'.out.cell 1
    have c60 : W5.cell? ⟨h6, 0, none⟩ = some (.int .i64 (s : Nat)) := hB65'.out.cell 0
    have c61 : W5.cell? ⟨h6, 1, none⟩ = some (.slice ao4 m4 cap4) := hB65'.out.cell 1
    have TM := rtimes_any hD5'.out (hh.out.move hfw5'.out)
    have epow : mulM (powM A s (k + k)) A = powM A s (k + k + 1) := rfl
    rw [epow] at TM
    clear epow
    go_wp2_with fail
    refine TM.mono ?_
    rintro e w6 ⟨v, rfl, hD, hDn, hf6⟩
    have hD6 := Lib.hid hD
    obtain ⟨ao6, cap6, rfl, _⟩ := hD
    obtain ⟨m6, hm⟩ : ∃ m, (cellsL (powM A s (k + k + 1)) s).length = m := ⟨_, rfl⟩
    rw [hm] at hD6 hDn ⊢
    have hDn6 := Lib.hid hDn
    have hB66 := Lib.hid (hB65'.out.far' hf6 id)
    have hB46 := Lib.hid (hB45'.out.far' hf6 id)
    have hfw6 := Lib.hid (hfw5'.out.then hf6)
    have h6z5 := Lib.hid (show h6 < W5.heap.size from hB65'.out.lt)
    have hW5z := Lib.hid (show w.heap.size ≤ W5.heap.size from hfw5'.out.size)
    have c60 : w6.cell? ⟨h6, 0, none⟩ = some (.int .i64 (s : Nat)) := hB66.out.cell 0
    have c61 : w6.cell? ⟨h6, 1, none⟩ = some (.slice ao4 m4 cap4) := hB66.out.cell 1
    have fr0 := hB66.out.free 0
    have fr1 := hB66.out.free 1
    clear TM hm hDn hf6 b20 b21
    obtain ⟨W7, hw8⟩ : ∃ V, V = (w6.setCell ⟨h6, 0, none⟩ (.int .i64 (s : Nat))).setCell ⟨h6, 1, none⟩ (.slice ao6 m6 cap6) := ⟨_, rfl⟩
    have hB8 : Bk W7 h6 28 #[.int .i64 (s : Nat), .slice ao6 m6 cap6] := hw8 ▸ (hB66.out.set 0 _).set 1 _
    have hF8 : Far (fun q => q = h6) w6 W7 := hw8 ▸ ((Far.refl (fun q => q = h6) w6).set ⟨h6, 0, none⟩ _ fun _ => rfl).set ⟨h6, 1, none⟩ _ fun _ => rfl
    have hD8 : Dm W7 (.agg #[.int .i64 (s : Nat), .slice ao6 m6 cap6]) s (powM A s (k + k + 1)) := by
      have hDn := hDn6.out
      obtain ⟨aoz, capz, e9, hP, r9⟩ := hD6.out
      cases e9
      exact ⟨_, _, rfl, hP.kept hF8 (fun a ha hl e => by have h1 := hDn _ _ _ _ rfl a ha; have e : a.block = h6 := e; have h2 := h6z5.out; omega), r9⟩
    have m46 := n46.out
    have hfw8 : Far (fun _ => False) w W7 := hfw6.out.trans hF8 fun q hq e => by omega
    have hB48 := hB46.out.far' hF8 (by omega)
    have hD8' := Lib.hid hD8
    have hfw8' := Lib.hid hfw8
    have hB48' := Lib.hid hB48
    have hB68' := Lib.hid hB8
    have hw8' := Lib.hid hw8
    clear hD8 hfw8 hB48 hB8 hF8 hw8 m46
    go_upto_region 11 with fail
    rw [← hw8'.out]
    clear c60 c61 fr0 fr1
    have hz3 := h6z5.out
    have hz4 := hW5z.out
    have q0 : W7.cell? ⟨h6, 0, none⟩ = some (.int .i64 (s : Nat)) := (hB68'.out).cell 0
    have q1 : W7.cell? ⟨h6, 1, none⟩ = some (.slice ao6 m6 cap6) := (hB68'.out).cell 1
    have d0 : W7.cell? ⟨h4, 0, none⟩ = some (.int .i64 0) := (hB48'.out).cell 0
    have d1 : W7.cell? ⟨h4, 1, none⟩ = some (.slice none 0 0) := (hB48'.out).cell 1
    have f0 := (hB48'.out).free 0
    have f1 := (hB48'.out).free 1
    go_wp2_with fail
    (try simp only [Exit.inBlock, Exit.then])
    obtain ⟨w7, hwz⟩ : ∃ V, V = (W7.setCell ⟨h4, 0, none⟩ (.int .i64 (s : Nat))).setCell ⟨h4, 1, none⟩ (.slice ao6 m6 cap6) := ⟨_, rfl⟩
    have hBz : Bk w7 h4 28 #[.int .i64 (s : Nat), .slice ao6 m6 cap6] := hwz ▸ (hB48'.out.set 0 _).set 1 _
    have hFz : Far (fun q => q = h4) W7 w7 := hwz ▸ ((Far.refl (fun q => q = h4) W7).set ⟨h4, 0, none⟩ _ fun _ => rfl).set ⟨h4, 1, none⟩ _ fun _ => rfl
    have k2 := hh2'.out
    have k4 := hh4'.out
    have k46 := n46.out
    have hf7 : Far (fun _ => False) w w7 := (hfw8'.out).trans hFz fun q hq e => by omega
    have c0 : w7.cell? ⟨h4, 0, none⟩ = some (.int .i64 (s : Nat)) := hBz.cell 0
    have c1 : w7.cell? ⟨h4, 1, none⟩ = some (.slice ao6 m6 cap6) := hBz.cell 1
    have hD7 : Dm w7 (.agg #[.int .i64 (s : Nat), .slice ao6 m6 cap6]) s (powM A s (k + k + 1)) := by
      have hDn := hDn6.out
      obtain ⟨aoz, capz, e9, hP, r9⟩ := hD8'.out
      cases e9
      exact ⟨_, _, rfl, hP.kept hFz (fun a ha hl e => by have h1 := hDn _ _ _ _ rfl a ha; have e : a.block = h4 := e; omega), r9⟩
    have hDn7 : Dn (.agg #[.int .i64 (s : Nat), .slice ao6 m6 cap6]) w.heap.size := fun s9 a9 n9 c9 e9 a ha => by have := hDn6.out s9 a9 n9 c9 e9 a ha; omega
    rw [← hwz]
    exact bodyPost_ret (v := .tuple #[.agg #[.int .i64 (s : Nat), .slice ao6 m6 cap6], .int .i64 0]) (by simp [results, Tryd.f45, go_sem, c0, c1]) rfl ⟨_, rfl, by rw [hpw.out]; exact hD7, hDn7, hf7⟩
theorem rpower_any {s : Nat} {A : Nat → Nat → Bool} (s1 : 1 ≤ s) : ∀ b n : Nat, n ≤ b → n ≤ 9223372036854775807 → PowAt s A n
  | 0, n, h, hn => by rw [show n = 0 by omega]; exact rpower_zero s1
  | b + 1, n, h, hn => by
    by_cases h0 : n = 0
    · rw [h0]; exact rpower_zero s1
    · exact rpower_step s1 (by omega) hn (rpower_any s1 b (n / 2) (by omega) (by omega))
end
end Go.Proofs.YthgjnnghokmjdaaDoor
