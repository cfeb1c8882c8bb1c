/-
  QKSqs: QKProd, QKSq, QKSq2.
-/
import Derived.Test.YtkobbcmndneajaaDoorQKFold
import Derived.Test.YtkobbcmndneajaaDoorQPFit
import Derived.Deep.RegionHeld3
import Derived.Deep.QuietTactic
import Derived.BigQuiet
/-! ## QKProd: kron: Product; the squares' errors; Square. -/
namespace Go.Proofs.YtkobbcmndneajaaDoor
open Go.RowKit Go.Shelf
set_option linter.unusedVariables false
set_option linter.unusedSimpArgs false
section
variable {w : World} {Ba Bb Bc p q sc : Nat} {Fa Fb Fc : Nat → Prop} {A B C : Nat → Nat → Bool}
set_option maxHeartbeats 8000000
set_option maxRecDepth 100000
theorem knone_no (ha : Mx w Ba Fa p A) : Calls Tryd.prog 88 #[.pointer (some ⟨Ba, 0, none⟩)] w fun e w' => e = .returned (.bool false) ∧ w = w' := by
  have SD := ha.side
  have hp := ha.sides.1
  have e1 : ((p : Int) == 0) = false := by simp; omega
  clear ha
  go_enter Tryd.func88, Tryd.ntmps88
  go_wp2_with fail
  refine SD.mono ?_
  rintro e w' ⟨rfl, rfl⟩
  go_wp2_with fail
  go_ret
  exact ⟨rfl, rfl⟩
theorem kproduct_yes (ha : Mx w Ba Fa p A) (hb : Mx w Bb Fb q B) (hpq : p * q ≤ 1024) (hT : Tab w) : Calls Tryd.prog 36 #[.pointer (some ⟨Ba, 0, none⟩), .pointer (some ⟨Bb, 0, none⟩)] w fun e w' => ∃ B', e = .returned (.tuple #[.pointer (some ⟨B', 0, none⟩), .int .i64 0]) ∧ ∃ F', Mx w' B' F' (p * q) (kronM A B q) ∧ (∀ k, F' k → w.heap.size ≤ k) ∧ Far (fun _ => False) w w' := by
  obtain ⟨p1, p2⟩ := ha.sides
  obtain ⟨q1, q2⟩ := hb.sides
  obtain ⟨m, hm⟩ : ∃ m, m = p * q := ⟨_, rfl⟩
  have hm1 : 1 ≤ m := by rw [hm]; exact Nat.mul_pos p1 q1
  have hm2 : m ≤ 1024 := by omega
  have hmu : (p : Int) * (q : Int) = (m : Int) := by rw [hm, Int.natCast_mul]
  have NA := knone_no ha
  have NB := knone_no hb
  have SA := ha.side
  have SB := hb.side
  have NW := qnew_yes m hm1 hm2 w
  have ha' := Lib.hid ha
  have hb' := Lib.hid hb
  have hm' := Lib.hid hm
  clear ha hb hm hpq
  go_enter Tryd.func36, Tryd.ntmps36
  go_wp2_with fail
  refine NA.mono ?_
  rintro e w' ⟨rfl, rfl⟩
  go_wp2_with fail
  refine NB.mono ?_
  rintro e w' ⟨rfl, rfl⟩
  go_wp2_with fail
  refine SA.mono ?_
  rintro e w' ⟨rfl, rfl⟩
  go_wp2_with fail
  refine SB.mono ?_
  rintro e w' ⟨rfl, rfl⟩
  clear NA NB SA SB
  go_wp2_with fail
  refine NW.mono ?_
  rintro e w1 ⟨rfl, lv, hlv, hwd, hBk, hf1⟩
  have hX1 := Mx.new (w := w) hm1 hm2 hlv hwd hBk
  have LY := lay_any hX1 (ha'.out.still hf1) (hb'.out.still hf1) hm'.out (hT.still hf1) (fun h => by have := Qf_none h; have := hT.lt; omega)
  obtain ⟨Bm, hBm⟩ : ∃ b, b = w.heap.size := ⟨_, rfl⟩
  rw [← hBm] at LY ⊢
  have hf1' := Lib.hid hf1
  have hBm' := Lib.hid hBm
  clear NW hBk hf1 hX1 hBm
  go_wp2_with fail
  refine LY.mono ?_
  rintro e w2 ⟨rfl, F', hX2, hm2⟩
  have hX2' := Lib.hid hX2
  have hm2' := Lib.hid hm2
  clear LY hX2 hm2
  go_wp2_with fail
  go_ret2
  refine ⟨_, rfl, F', ?_, fun k hk => ?_, hf1'.out.trans hm2'.out.far fun k hk e => by have := Qf_none e; have := hBm'.out; omega⟩
  · rw [← hm'.out]
    exact hX2'.out.congr fun r c => by unfold joinM; rfl
  · rcases hm2'.out.more k hk with e | e
    · have := Qf_none e; have := hBm'.out; omega
    · have := hf1'.out.size; omega
theorem ksquares_yes (hc : Mx w Bc Fc sc C) (q t : Nat) (hq : 1 ≤ q) (ht : sc = t * q) : Calls Tryd.prog 91 #[.pointer (some ⟨Bc, 0, none⟩), .int .i64 (q : Nat)] w fun e w' => e = .returned (.int .i64 0) ∧ w = w' := by
  have NA := knone_no hc
  have SC := hc.side
  have q1 : ¬ (q : Int) < 1 := by omega
  have q0 : ((q : Int) == 0) = false := by simp; omega
  have q00 : ¬ (q : Int) = 0 := by omega
  have hmod : (sc : Int).tmod (q : Int) = 0 := by
    rw [ht, Int.natCast_mul, Int.tmod_eq_emod_of_nonneg (by omega)]
    exact Int.mul_emod_left _ _
  have hs2 := hc.sides.2
  clear hc ht
  go_enter Tryd.func91, Tryd.ntmps91
  go_wp2_with fail
  refine NA.mono ?_
  rintro e w' ⟨rfl, rfl⟩
  go_wp2_with fail
  refine SC.mono ?_
  rintro e w' ⟨rfl, rfl⟩
  go_wp2_with fail
  go_ret
  exact ⟨rfl, rfl⟩
theorem ksquares_no (hc : Mx w Bc Fc sc C) (q : Nat) (hq : 1 ≤ q) (ht : sc % q ≠ 0) : Calls Tryd.prog 91 #[.pointer (some ⟨Bc, 0, none⟩), .int .i64 (q : Nat)] w fun e w' => e = .returned (.int .i64 5) ∧ w = w' := by
  have NA := knone_no hc
  have SC := hc.side
  have q1 : ¬ (q : Int) < 1 := by omega
  have q0 : ((q : Int) == 0) = false := by simp; omega
  have q00 : ¬ (q : Int) = 0 := by omega
  obtain ⟨r, hr⟩ : ∃ r, sc % q = r := ⟨_, rfl⟩
  have hmod : (sc : Int).tmod (q : Int) = (r : Int) := by
    rw [Int.tmod_eq_emod_of_nonneg (by omega), ← hr, Int.natCast_emod]
  have hr0 : ((r : Int) == 0) = false := by simp; omega
  have hd1 : decide ((q : Int) < 1) = false := decide_eq_false q1
  have hrn : ((r : Int) != 0) = true := by simp; omega
  have hs2 := hc.sides.2
  clear hc ht hr
  go_enter Tryd.func91, Tryd.ntmps91
  go_wp2_with fail
  refine NA.mono ?_
  rintro e w' ⟨rfl, rfl⟩
  go_wp2_with fail
  refine SC.mono ?_
  rintro e w' ⟨rfl, rfl⟩
  go_wp2_with fail
  all_goals
    go_ret
    exact ⟨rfl, rfl⟩
end
end Go.Proofs.YtkobbcmndneajaaDoor
/-! ## QKSq: kron.Square. -/
namespace Go.Proofs.YtkobbcmndneajaaDoor
open Go.RowKit Go.Shelf
set_option linter.unusedVariables false
set_option linter.unusedSimpArgs false
theorem beq_nat (a b : Nat) : ((a : Int) == (b : Int)) = decide (a = b) := by
  rw [Bool.eq_iff_iff]; simp; omega
section
set_option maxHeartbeats 1000000
set_option maxRecDepth 100000
theorem sq1_03 (V : World) (h5 h6 h7 : Nat) (B5 : Bk V h5 3 #[.int .i64 3]) (B6 : Bk V h6 3 #[.int .i64 0]) (B7 : Bk V h7 3 #[.int .i64 1]) :
    Calls Tryd.prog 93 #[.int .i64 0, .int .i64 3, .pointer (some ⟨h5, 0, none⟩), .pointer (some ⟨h6, 0, none⟩), .pointer (some ⟨h7, 0, none⟩)] V fun e w' => e = .returned (.tuple #[.agg #[.int .i64 0, .int .i64 0], .bool true]) ∧ Far (fun _ => False) V w' := by
  obtain ⟨h0, hh0⟩ : ∃ h, h = V.heap.size := ⟨_, rfl⟩
  obtain ⟨V1, hV1⟩ : ∃ X, X = V.alloc (.cells #[.int .i64 0, .int .i64 0] 82) := ⟨_, rfl⟩
  have hf1 : Far (fun _ => False) V V1 := hV1 ▸ (Far.refl _ V).alloc _
  have hB0 : Bk V1 h0 82 #[.int .i64 0, .int .i64 0] := hV1 ▸ Bk.new hh0
  have c5 : V1.cell? ⟨h5, 0, none⟩ = some (.int .i64 3) := (B5.far' hf1 id).cell 0
  have c6 : V1.cell? ⟨h6, 0, none⟩ = some (.int .i64 0) := (B6.far' hf1 id).cell 0
  have c7 : V1.cell? ⟨h7, 0, none⟩ = some (.int .i64 1) := (B7.far' hf1 id).cell 0
  have d0 : V1.cell? ⟨h0, 0, none⟩ = some (.int .i64 0) := hB0.cell 0
  have d1 : V1.cell? ⟨h0, 1, none⟩ = some (.int .i64 0) := hB0.cell 1
  have f0 := hB0.free 0
  have f1 := hB0.free 1
  have n50 : h5 ≠ h0 := Nat.ne_of_lt (by rw [hh0]; exact B5.lt)
  have n60 : h6 ≠ h0 := Nat.ne_of_lt (by rw [hh0]; exact B6.lt)
  have n70 : h7 ≠ h0 := Nat.ne_of_lt (by rw [hh0]; exact B7.lt)
  have n05 : h0 ≠ h5 := fun e => n50 e.symm
  have n06 : h0 ≠ h6 := fun e => n60 e.symm
  have n07 : h0 ≠ h7 := fun e => n70 e.symm
  have u0 : IntKind.i64.wrap 0 = 0 := by decide
  have u1 : IntKind.i64.wrap 1 = 1 := by decide
  have u2 : IntKind.i64.wrap 2 = 2 := by decide
  have hf1' := Lib.hid hf1
  have hB0' := Lib.hid hB0
  have hh0' := Lib.hid hh0
  have hV1' := Lib.hid hV1
  clear hf1 hB0 hh0 hV1 B5 B6 B7
  go_enter Tryd.func93, Tryd.ntmps93
  go_upto_region 1 with fail
  rw [← hV1'.out, ← hh0'.out]
  go_region_held3 (fun w' => w'.cell? ⟨h5, 0, none⟩ = some (.int .i64 3) ∧ w'.cell? ⟨h6, 0, none⟩ = some (.int .i64 0) ∧ w'.cell? ⟨h7, 0, none⟩ = some (.int .i64 1)) (go_keep) (first | fail)
  all_goals
    go_wp2_with fail
    (try simp only [Exit.inBlock, Exit.then])
    obtain ⟨w7, hw7⟩ : ∃ X, X = ((V1.setCell ⟨h0, 0, none⟩ (.int .i64 0)).setCell ⟨h0, 1, none⟩ (.int .i64 0)).drew := ⟨_, rfl⟩
    have hB7 : Bk w7 h0 82 #[.int .i64 0, .int .i64 0] := hw7 ▸ ((hB0'.out.set 0 _).set 1 _ : Bk ((V1.setCell ⟨h0, 0, none⟩ (.int .i64 0)).setCell ⟨h0, 1, none⟩ (.int .i64 0)) h0 _ _)
    have hf7 : Far (fun _ => False) V w7 := hw7 ▸ (((hf1'.out.set ⟨h0, 0, none⟩ _ (fun h => by rw [hh0'.out] at h; exact absurd h (Nat.lt_irrefl _))).set ⟨h0, 1, none⟩ _ (fun h => by rw [hh0'.out] at h; exact absurd h (Nat.lt_irrefl _)))).drew
    have e0 : w7.cell? ⟨h0, 0, none⟩ = some (.int .i64 0) := hB7.cell 0
    have e1 : w7.cell? ⟨h0, 1, none⟩ = some (.int .i64 0) := hB7.cell 1
    rw [← hw7]
    exact bodyPost_ret (v := .tuple #[.agg #[.int .i64 0, .int .i64 0], .bool true]) (by simp [results, Tryd.f93, go_sem, e0, e1, u0, u1, u2]) rfl ⟨rfl, hf7⟩
theorem sq1_24 (V : World) (h5 h6 h7 : Nat) (B5 : Bk V h5 3 #[.int .i64 3]) (B6 : Bk V h6 3 #[.int .i64 0]) (B7 : Bk V h7 3 #[.int .i64 1]) :
    Calls Tryd.prog 93 #[.int .i64 2, .int .i64 4, .pointer (some ⟨h5, 0, none⟩), .pointer (some ⟨h6, 0, none⟩), .pointer (some ⟨h7, 0, none⟩)] V fun e w' => e = .returned (.tuple #[.agg #[.int .i64 2, .int .i64 1], .bool true]) ∧ Far (fun _ => False) V w' := by
  obtain ⟨h0, hh0⟩ : ∃ h, h = V.heap.size := ⟨_, rfl⟩
  obtain ⟨V1, hV1⟩ : ∃ X, X = V.alloc (.cells #[.int .i64 0, .int .i64 0] 82) := ⟨_, rfl⟩
  have hf1 : Far (fun _ => False) V V1 := hV1 ▸ (Far.refl _ V).alloc _
  have hB0 : Bk V1 h0 82 #[.int .i64 0, .int .i64 0] := hV1 ▸ Bk.new hh0
  have c5 : V1.cell? ⟨h5, 0, none⟩ = some (.int .i64 3) := (B5.far' hf1 id).cell 0
  have c6 : V1.cell? ⟨h6, 0, none⟩ = some (.int .i64 0) := (B6.far' hf1 id).cell 0
  have c7 : V1.cell? ⟨h7, 0, none⟩ = some (.int .i64 1) := (B7.far' hf1 id).cell 0
  have d0 : V1.cell? ⟨h0, 0, none⟩ = some (.int .i64 0) := hB0.cell 0
  have d1 : V1.cell? ⟨h0, 1, none⟩ = some (.int .i64 0) := hB0.cell 1
  have f0 := hB0.free 0
  have f1 := hB0.free 1
  have n50 : h5 ≠ h0 := Nat.ne_of_lt (by rw [hh0]; exact B5.lt)
  have n60 : h6 ≠ h0 := Nat.ne_of_lt (by rw [hh0]; exact B6.lt)
  have n70 : h7 ≠ h0 := Nat.ne_of_lt (by rw [hh0]; exact B7.lt)
  have n05 : h0 ≠ h5 := fun e => n50 e.symm
  have n06 : h0 ≠ h6 := fun e => n60 e.symm
  have n07 : h0 ≠ h7 := fun e => n70 e.symm
  have u0 : IntKind.i64.wrap 0 = 0 := by decide
  have u1 : IntKind.i64.wrap 1 = 1 := by decide
  have u2 : IntKind.i64.wrap 2 = 2 := by decide
  have hf1' := Lib.hid hf1
  have hB0' := Lib.hid hB0
  have hh0' := Lib.hid hh0
  have hV1' := Lib.hid hV1
  clear hf1 hB0 hh0 hV1 B5 B6 B7
  go_enter Tryd.func93, Tryd.ntmps93
  go_upto_region 1 with fail
  rw [← hV1'.out, ← hh0'.out]
  go_region_held3 (fun w' => w'.cell? ⟨h5, 0, none⟩ = some (.int .i64 3) ∧ w'.cell? ⟨h6, 0, none⟩ = some (.int .i64 0) ∧ w'.cell? ⟨h7, 0, none⟩ = some (.int .i64 1)) (go_keep) (first | fail)
  all_goals
    go_wp2_with fail
    (try simp only [Exit.inBlock, Exit.then])
    obtain ⟨w7, hw7⟩ : ∃ X, X = ((V1.setCell ⟨h0, 0, none⟩ (.int .i64 2)).setCell ⟨h0, 1, none⟩ (.int .i64 1)).drew := ⟨_, rfl⟩
    have hB7 : Bk w7 h0 82 #[.int .i64 2, .int .i64 1] := hw7 ▸ ((hB0'.out.set 0 _).set 1 _ : Bk ((V1.setCell ⟨h0, 0, none⟩ (.int .i64 2)).setCell ⟨h0, 1, none⟩ (.int .i64 1)) h0 _ _)
    have hf7 : Far (fun _ => False) V w7 := hw7 ▸ (((hf1'.out.set ⟨h0, 0, none⟩ _ (fun h => by rw [hh0'.out] at h; exact absurd h (Nat.lt_irrefl _))).set ⟨h0, 1, none⟩ _ (fun h => by rw [hh0'.out] at h; exact absurd h (Nat.lt_irrefl _)))).drew
    have e0 : w7.cell? ⟨h0, 0, none⟩ = some (.int .i64 2) := hB7.cell 0
    have e1 : w7.cell? ⟨h0, 1, none⟩ = some (.int .i64 1) := hB7.cell 1
    rw [← hw7]
    exact bodyPost_ret (v := .tuple #[.agg #[.int .i64 2, .int .i64 1], .bool true]) (by simp [results, Tryd.f93, go_sem, e0, e1, u0, u1, u2]) rfl ⟨rfl, hf7⟩
/-- One square. -/
def sqM (C : Nat → Nat → Bool) (q i j : Nat) : Nat → Nat → Bool := fun r s => decide (r < q) && decide (s < q) && C (i * q + r) (j * q + s)
variable {w : World} {Bc sc : Nat} {Fc : Nat → Prop} {C : Nat → Nat → Bool}
theorem sq_cells {q i j t : Nat} (hq : 1 ≤ q) (hC : ∀ r c, C r c = true → r < sc ∧ c < sc) : ∀ r s, sqM C q i j r s = addL zeroM (mkL (fun r s => r % q) (fun r s => s % q) (fun r s => decide (r / q = i) && decide (s / q = j)) (cellsL C sc)) r s := fun r s => by
  rw [Bool.eq_iff_iff]
  unfold sqM addL mkL zeroM
  simp only [Bool.and_eq_true, decide_eq_true_eq, Bool.false_or, List.mem_map, List.mem_filter, Prod.mk.injEq]
  constructor
  · rintro ⟨⟨h1, h2⟩, h3⟩
    refine ⟨(i * q + r, j * q + s), ⟨(mem_cellsL hC).2 h3, ?_⟩, ?_⟩
    · exact ⟨(kron_div h1).1, (kron_div h2).1⟩
    · exact ⟨(kron_div h1).2, (kron_div h2).2⟩
  · rintro ⟨x, ⟨hx, h1, h2⟩, rfl, rfl⟩
    have h3 := (mem_cellsL hC).1 hx
    refine ⟨⟨Nat.mod_lt _ hq, Nat.mod_lt _ hq⟩, ?_⟩
    have e1 : i * q + x.1 % q = x.1 := by rw [← h1, Nat.mul_comm]; exact Nat.div_add_mod _ _
    have e2 : j * q + x.2 % q = x.2 := by rw [← h2, Nat.mul_comm]; exact Nat.div_add_mod _ _
    rw [e1, e2]; exact h3
end
end Go.Proofs.YtkobbcmndneajaaDoor
/-! ## QKSq2: kron.Square where all cells lie in one row of squares; a square that cannot be. -/
namespace Go.Proofs.YtkobbcmndneajaaDoor
open Go.RowKit Go.Shelf
set_option linter.unusedVariables false
set_option linter.unusedSimpArgs false
theorem wrap_t {t : Nat} (h : t ≤ 1024) : wrap64 (t : Int) = (t : Int) ∧ IntKind.i64.wrap (t : Int) = (t : Int) := ⟨by rw [wrap64_of (by omega)], by rw [IntKind.wrap_i64]; omega⟩
theorem div_t {sc t q : Nat} (hq : 1 ≤ q) (ht : sc = t * q) : (sc : Int) / (q : Int) = (t : Int) ∧ (sc : Int).tdiv (q : Int) = (t : Int) := by
  have h : (sc : Int) / (q : Int) = (t : Int) := by rw [ht, Int.natCast_mul]; exact Int.mul_ediv_cancel _ (by omega)
  exact ⟨h, by rw [Int.tdiv_eq_ediv_of_nonneg (Int.natCast_nonneg _)]; exact h⟩
section
variable {w : World} {Bc sc : Nat} {Fc : Nat → Prop} {C : Nat → Nat → Bool}
set_option maxHeartbeats 2000000
set_option maxRecDepth 100000
theorem kSquare_row (hc : Mx w Bc Fc sc C) (q t i j : Nat) (hq : 1 ≤ q) (ht : sc = t * q) (hi : i < t) (hj : j < t) (hcall : ∀ (V : World) (h5 h6 h7 : Nat), Bk V h5 3 #[.int .i64 (q : Nat)] → Bk V h6 3 #[.int .i64 (i : Nat)] → Bk V h7 3 #[.int .i64 (j : Nat)] → ∀ r s : Nat, C r s = true → Calls Tryd.prog 93 (#[.int .i64 (r : Nat), .int .i64 (s : Nat)] ++ #[.pointer (some ⟨h5, 0, none⟩), .pointer (some ⟨h6, 0, none⟩), .pointer (some ⟨h7, 0, none⟩)]) V fun e w' => e = .returned (.tuple #[.agg #[.int .i64 ((r % q : Nat) : Nat), .int .i64 ((s % q : Nat) : Nat)], .bool (decide (r / q = i) && decide (s / q = j))]) ∧ Far (fun _ => False) V w') (hT : Tab w) : Calls Tryd.prog 41 #[.pointer (some ⟨Bc, 0, none⟩), .int .i64 (q : Nat), .int .i64 (i : Nat), .int .i64 (j : Nat)] w fun e w' => ∃ B', e = .returned (.tuple #[.pointer (some ⟨B', 0, none⟩), .int .i64 0]) ∧ ∃ F', Mx w' B' F' q (sqM C q i j) ∧ (∀ k, F' k → w.heap.size ≤ k) ∧ Far (fun _ => False) w w' := by
  obtain ⟨c1, c2⟩ := hc.sides
  have ht1 : 1 ≤ t := by omega
  have hqs : q ≤ sc := by rw [ht]; exact Nat.le_mul_of_pos_left q ht1
  have hts : t ≤ sc := by rw [ht]; exact Nat.le_mul_of_pos_right t hq
  have hq1024 : q ≤ 1024 := Nat.le_trans hqs c2
  obtain ⟨h5, hh5⟩ : ∃ h, h = w.heap.size := ⟨_, rfl⟩
  obtain ⟨h6, hh6⟩ : ∃ h, h = h5 + 1 := ⟨_, rfl⟩
  obtain ⟨h7, hh7⟩ : ∃ h, h = h6 + 1 := ⟨_, rfl⟩
  obtain ⟨W1, hW1⟩ : ∃ V, V = ((w.alloc (.cells #[.int .i64 (q : Nat)] 3)).alloc (.cells #[.int .i64 (i : Nat)] 3)).alloc (.cells #[.int .i64 (j : Nat)] 3) := ⟨_, rfl⟩
  have hf1 : Far (fun _ => False) w W1 := hW1 ▸ (((Far.refl _ w).alloc _).alloc _).alloc _
  have b5 : Bk W1 h5 3 #[.int .i64 (q : Nat)] := hW1 ▸ ((Bk.new hh5).alloc _).alloc _
  have b6 : Bk W1 h6 3 #[.int .i64 (i : Nat)] := hW1 ▸ (Bk.new (by simp [hh6, hh5])).alloc _
  have b7 : Bk W1 h7 3 #[.int .i64 (j : Nat)] := hW1 ▸ Bk.new (by simp [hh7, hh6, hh5])
  have SQ := ksquares_yes (hc.still hf1) q t hq ht
  have hwc := hc.within
  have SJ : ∀ k : Nat, Calls Tryd.prog 47 #[.pointer (some ⟨Bc, 0, none⟩)] (W1.drewN k) fun e w' => e = .returned (.int .i64 (sc : Nat)) ∧ w' = W1.drewN k := fun k => (((hc.still hf1).still ((Far.refl (fun _ => False) W1).drewN k)).side).mono fun e w' h => ⟨h.1, h.2.symm⟩
  have MD := Lib.hid (fun (V : World) (hf : Far (fun _ => False) W1 V) => kmade_any ((hc.still hf1).still hf) q hq hq1024 93 #[.pointer (some ⟨h5, 0, none⟩), .pointer (some ⟨h6, 0, none⟩), .pointer (some ⟨h7, 0, none⟩)] (fun r s => r % q) (fun r s => s % q) (fun r s => decide (r / q = i) && decide (s / q = j)) (enters_of Tryd.func93 (by kernel_rfl) rfl)
    (fun r s hrs V2 hf2 => hcall V2 h5 h6 h7 ((b5.far' hf id).far' hf2 id) ((b6.far' hf id).far' hf2 id) ((b7.far' hf id).far' hf2 id) r s hrs)
    (fun r s _ _ => ⟨Nat.mod_lt _ hq, Nat.mod_lt _ hq⟩) ((hT.still hf1).still hf))
  have HK := Lib.hid (show ∀ V, Far (fun _ => False) W1 V → V.cell? ⟨h5, 0, none⟩ = some (.int .i64 (q : Nat)) ∧ V.cell? ⟨h6, 0, none⟩ = some (.int .i64 (i : Nat)) ∧ V.cell? ⟨h7, 0, none⟩ = some (.int .i64 (j : Nat)) from fun V hf => ⟨(b5.far' hf id).cell 0, (b6.far' hf id).cell 0, (b7.far' hf id).cell 0⟩)
  obtain ⟨g5, g6, g7⟩ := HK.out W1 (Far.refl _ _)
  have q0 : ((q : Int) == 0) = false := by rw [show (0 : Int) = ((0 : Nat) : Int) from rfl, beq_nat]; exact decide_eq_false (by omega)
  have q00 : ¬ (q : Int) = 0 := by omega
  have hi0 : ¬ (i : Int) < 0 := by omega
  have hj0 : ¬ (j : Int) < 0 := by omega
  have hit : ¬ (t : Int) ≤ (i : Int) := by omega
  have hjt : ¬ (t : Int) ≤ (j : Int) := by omega
  obtain ⟨hwt, hwt2⟩ := wrap_t (Nat.le_trans hts c2)
  obtain ⟨hdv2, hdv⟩ := div_t hq ht
  have hcells := Lib.hid (sq_cells (C := C) (sc := sc) (q := q) (i := i) (j := j) (t := t) hq hwc)
  have hh5' := Lib.hid hh5
  have hh6' := Lib.hid hh6
  have hh7' := Lib.hid hh7
  have hW1' := Lib.hid hW1
  have hf1' := Lib.hid hf1
  clear hc hh5 hh6 hh7 hW1 hf1 b5 b6 b7 hwc ht hcall
  go_enter Tryd.func41, Tryd.ntmps41
  go_upto_region 1 with fail
  rw [← hh5'.out, ← hh6'.out, ← hh7'.out, ← hW1'.out]
  go_wp2_with fail
  refine SQ.mono ?_
  rintro e w' ⟨rfl, e8⟩
  subst e8
  clear SQ
  go_upto_region 4 with fail
  go_quiet (first | (go_at_call 47; exact Calls.quiet_of_same (SJ _)))
  obtain ⟨wd, hwd⟩ : ∃ wd, wd = W1.drewN nq := ⟨_, rfl⟩
  have hfd : Far (fun _ => False) W1 wd := hwd ▸ (Far.refl (fun _ => False) W1).drewN nq
  obtain ⟨g5, g6, g7⟩ := HK.out wd hfd
  have MD1 := MD.out wd hfd
  have hfd' := Lib.hid (hf1'.out.then hfd)
  rw [← hwd]
  clear hwd hfd SJ MD HK hdv hdv2
  go_wp2_with fail
  refine MD1.mono ?_
  rintro e w3 ⟨B', rfl, F', hX, hlo, hf3⟩
  have hX' := Lib.hid hX
  have hlo' := Lib.hid hlo
  have hf3' := Lib.hid hf3
  clear MD1 hX hlo hf3 g5 g6 g7
  go_wp2_with fail
  go_ret2
  exact ⟨_, rfl, F', hX'.out.congr hcells.out, fun k hk => Nat.le_trans hfd'.out.size (hlo'.out k hk), hfd'.out.then hf3'.out⟩
theorem kSquare_no (hc : Mx w Bc Fc sc C) (q i j : Nat) (hq : 1 ≤ q) (ht : sc % q ≠ 0) : Calls Tryd.prog 41 #[.pointer (some ⟨Bc, 0, none⟩), .int .i64 (q : Nat), .int .i64 (i : Nat), .int .i64 (j : Nat)] w fun e w' => e = .returned (.tuple #[.pointer none, .int .i64 5]) ∧ Far (fun _ => False) w w' := by
  obtain ⟨h5, hh5⟩ : ∃ h, h = w.heap.size := ⟨_, rfl⟩
  obtain ⟨h6, hh6⟩ : ∃ h, h = h5 + 1 := ⟨_, rfl⟩
  obtain ⟨h7, hh7⟩ : ∃ h, h = h6 + 1 := ⟨_, rfl⟩
  obtain ⟨W1, hW1⟩ : ∃ V, V = ((w.alloc (.cells #[.int .i64 (q : Nat)] 3)).alloc (.cells #[.int .i64 (i : Nat)] 3)).alloc (.cells #[.int .i64 (j : Nat)] 3) := ⟨_, rfl⟩
  have hf1 : Far (fun _ => False) w W1 := hW1 ▸ (((Far.refl _ w).alloc _).alloc _).alloc _
  have b5 : Bk W1 h5 3 #[.int .i64 (q : Nat)] := hW1 ▸ ((Bk.new hh5).alloc _).alloc _
  have SQ := ksquares_no (hc.still hf1) q hq ht
  have g5 : W1.cell? ⟨h5, 0, none⟩ = some (.int .i64 (q : Nat)) := b5.cell 0
  have hh5' := Lib.hid hh5
  have hh6' := Lib.hid hh6
  have hh7' := Lib.hid hh7
  have hW1' := Lib.hid hW1
  have hf1' := Lib.hid hf1
  clear hc hh5 hh6 hh7 hW1 hf1 b5 ht
  go_enter Tryd.func41, Tryd.ntmps41
  go_upto_region 1 with fail
  rw [← hh5'.out, ← hh6'.out, ← hh7'.out, ← hW1'.out]
  go_wp2_with fail
  refine SQ.mono ?_
  rintro e w' ⟨rfl, e8⟩
  subst e8
  clear SQ
  go_wp2_with fail
  go_ret2
  exact ⟨rfl, hf1'.out⟩
end
end Go.Proofs.YtkobbcmndneajaaDoor
