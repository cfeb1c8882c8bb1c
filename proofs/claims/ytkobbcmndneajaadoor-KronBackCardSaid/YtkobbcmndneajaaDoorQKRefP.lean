/-
  QKRefP: QKAny, QKMany, QKRef, QKRefP.
-/
import Derived.Test.YtkobbcmndneajaaDoorQKSqs
import Derived.Test.YtkobbcmndneajaaDoorQRefO
import Derived.Test.YtkobbcmndneajaaDoorQHas
import Derived.Test.YtkobbcmndneajaaDoorQMd04
import Derived.Deep.RegionHeld3
import Derived.Deep.AppendLies
/-! ## QKAny: kron.Product whatever it is handed. -/
namespace Go.Proofs.YtkobbcmndneajaaDoor
open Go.RowKit Go.Shelf
set_option linter.unusedVariables false
set_option linter.unusedSimpArgs false
def kronE (p q : Nat) : Nat := if p = 0 ∨ q = 0 then 1 else if 1024 < p * q then 5 else 0
def kronS (p q : Nat) : Nat := if kronE p q = 0 then p * q else 0
def kronMM (p q : Nat) (A B : Nat → Nat → Bool) : Nat → Nat → Bool := if kronE p q = 0 then kronM A B q else zeroM
section
set_option maxHeartbeats 4000000
set_option maxRecDepth 100000
theorem knone_any {w : World} {v : Value} {F : Nat → Prop} {s : Nat} {M : Nat → Nat → Bool} (h : HasF w v F s M) : Calls Tryd.prog 88 #[v] w fun e w' => e = .returned (.bool (decide (s = 0))) ∧ w = w' := by
  have SD := h.side_any
  obtain ⟨a, rfl⟩ := h.ptr
  have hb : (((s : Nat) : Int) == 0) = decide (s = 0) := by
    by_cases e : s = 0
    · subst e; rfl
    · rw [decide_eq_false e]; simp; omega
  clear h
  obtain ⟨b, hbb⟩ : ∃ b, decide (s = 0) = b := ⟨_, rfl⟩
  rw [hbb] at hb ⊢
  clear hbb
  go_enter Tryd.func88, Tryd.ntmps88
  go_wp2_with fail
  refine SD.mono ?_
  rintro e w' ⟨rfl, rfl⟩
  go_wp2_with fail
  go_ret
  exact ⟨rfl, rfl⟩
theorem kProduct_any {w : World} {va vb : Value} {Fa Fb : Nat → Prop} {p q : Nat} {A B : Nat → Nat → Bool} (ha : HasF w va Fa p A) (hb : HasF w vb Fb q B) (hT : Tab w) : Calls Tryd.prog 36 #[va, vb] w fun e w' => ∃ v, e = .returned (.tuple #[v, .int .i64 (kronE p q : Nat)]) ∧ ∃ F', HasF w' v F' (kronS p q) (kronMM p q A B) ∧ (∀ k, F' k → w.heap.size ≤ k) ∧ Far (fun _ => False) w w' := by
  unfold kronS kronMM
  have NA := knone_any ha
  have NB := knone_any hb
  have SA := ha.side_any
  have SB := hb.side_any
  have hpb := ha.le
  have hqb := hb.le
  by_cases h0 : p = 0
  · have e : kronE p q = 1 := by unfold kronE; rw [if_pos (.inl h0)]
    rw [e, if_neg (by decide), if_neg (by decide)]
    rw [decide_eq_true h0] at NA
    clear ha hb hT e h0 NB SA SB
    go_enter Tryd.func36, Tryd.ntmps36
    go_wp2_with fail
    refine NA.mono ?_
    rintro e w' ⟨rfl, rfl⟩
    clear NA
    go_wp2_with fail
    (try rw [Exit.noGoto_ret])
    (try simp only [Exit.inBlock, Exit.then])
    refine bodyPost_ret (v := .tuple #[.pointer none, .int .i64 1]) (by simp [results, Tryd.f36, go_sem]) rfl ?_
    exact ⟨_, rfl, _, HasF.none _, fun _ h => h.elim, Far.refl _ _⟩
  · rw [decide_eq_false h0] at NA
    by_cases h1 : q = 0
    · have e : kronE p q = 1 := by unfold kronE; rw [if_pos (.inr h1)]
      rw [e, if_neg (by decide), if_neg (by decide)]
      rw [decide_eq_true h1] at NB
      clear ha hb hT e h0 h1 SA SB
      go_enter Tryd.func36, Tryd.ntmps36
      go_wp2_with fail
      refine NA.mono ?_
      rintro e w' ⟨rfl, rfl⟩
      clear NA
      go_wp2_with fail
      refine NB.mono ?_
      rintro e w' ⟨rfl, rfl⟩
      clear NB
      go_wp2_with fail
      (try rw [Exit.noGoto_ret])
      (try simp only [Exit.inBlock, Exit.then])
      refine bodyPost_ret (v := .tuple #[.pointer none, .int .i64 1]) (by simp [results, Tryd.f36, go_sem]) rfl ?_
      exact ⟨_, rfl, _, HasF.none _, fun _ h => h.elim, Far.refl _ _⟩
    · rw [decide_eq_false h1] at NB
      by_cases h2 : 1024 < p * q
      · have e : kronE p q = 5 := by unfold kronE; rw [if_neg (by omega), if_pos h2]
        rw [e, if_neg (by decide), if_neg (by decide)]
        obtain ⟨m, hm⟩ : ∃ m, m = p * q := ⟨_, rfl⟩
        have hmu : (p : Int) * (q : Int) = (m : Int) := by rw [hm, Int.natCast_mul]
        have hm3 : m ≤ 1048576 := by rw [hm]; exact Nat.mul_le_mul hpb hqb
        have hm4 : 1024 < m := by omega
        have hwm : IntKind.i64.wrap (m : Int) = (m : Int) := by rw [IntKind.wrap_i64]; omega
        have NW := qnew_no (m : Int) (by omega) w
        clear ha hb hT e h0 h1 h2 hm
        go_enter Tryd.func36, Tryd.ntmps36
        go_wp2_with fail
        refine NA.mono ?_
        rintro e w' ⟨rfl, rfl⟩
        clear NA
        go_wp2_with fail
        refine NB.mono ?_
        rintro e w' ⟨rfl, rfl⟩
        clear NB
        go_wp2_with fail
        refine SA.mono ?_
        rintro e w' ⟨rfl, rfl⟩
        clear SA
        go_wp2_with fail
        refine SB.mono ?_
        rintro e w' ⟨rfl, rfl⟩
        clear SB
        go_wp2_with fail
        refine NW.mono ?_
        rintro e w' ⟨rfl, rfl⟩
        clear NW
        go_wp2_with fail
        (try rw [Exit.noGoto_ret])
        (try simp only [Exit.inBlock, Exit.then])
        refine bodyPost_ret (v := .tuple #[.pointer none, .int .i64 5]) (by simp [results, Tryd.f36, go_sem]) rfl ?_
        exact ⟨_, rfl, _, HasF.none _, fun _ h => h.elim, Far.refl _ _⟩
      · have e : kronE p q = 0 := by unfold kronE; rw [if_neg (by omega), if_neg h2]
        rw [e, if_pos rfl, if_pos rfl]
        obtain ⟨Ba, rfl, hA⟩ := ha.mx h0
        obtain ⟨Bb, rfl, hB⟩ := hb.mx h1
        refine (kproduct_yes hA hB (by omega) hT).mono ?_
        rintro e w' ⟨B', rfl, F', hX, hlo, hf⟩
        exact ⟨_, rfl, F', .inr ⟨B', rfl, hX⟩, hlo, hf⟩
end
end Go.Proofs.YtkobbcmndneajaaDoor
/-! ## QKMany: Are there more cells than the laws of kron walk? -/
namespace Go.Proofs.YtkobbcmndneajaaDoor
open Go.RowKit Go.Shelf
set_option linter.unusedVariables false
set_option linter.unusedSimpArgs false
section
set_option maxHeartbeats 2000000
set_option maxRecDepth 100000
theorem many_any (W : World) (sa : Int) (aoa : Option Addr) (na ca : Nat) (sb : Int) (aob : Option Addr) (nb cb : Nat) : Calls Tryd.prog 33 #[.agg #[.int .i64 sa, .slice aoa na ca], .agg #[.int .i64 sb, .slice aob nb cb]] W fun e w' => e = .returned (.bool (decide (60 < na) || decide (60 < nb))) ∧ Far (fun _ => False) W w' := by
  obtain ⟨h2, hh2⟩ : ∃ h, h = W.heap.size := ⟨_, rfl⟩
  obtain ⟨h3, hh3⟩ : ∃ h, h = h2 + 1 := ⟨_, rfl⟩
  obtain ⟨W0, hW0⟩ : ∃ V, V = (W.alloc (.cells #[.int .i64 sa, .slice aoa na ca] 65)).alloc (.cells #[.int .i64 sb, .slice aob nb cb] 65) := ⟨_, rfl⟩
  have hF0 := Lib.hid (show Far (fun _ => False) W W0 from hW0 ▸ ((Far.refl _ W).alloc _).alloc _)
  have hB2 : Bk W0 h2 65 #[.int .i64 sa, .slice aoa na ca] := hW0 ▸ (Bk.new hh2).alloc _
  have hB3 : Bk W0 h3 65 #[.int .i64 sb, .slice aob nb cb] := hW0 ▸ Bk.new (by simp [hh3, hh2])
  have c2 : W0.cell? ⟨h2, 1, none⟩ = some (.slice aoa na ca) := hB2.cell 1
  have c3 : W0.cell? ⟨h3, 1, none⟩ = some (.slice aob nb cb) := hB3.cell 1
  have hh2' := Lib.hid hh2
  have hh3' := Lib.hid hh3
  have hW0' := Lib.hid hW0
  clear hh2 hh3 hW0 hB2 hB3
  by_cases ha : 60 < na
  · have hai : (60 : Int) < (na : Int) := by omega
    rw [decide_eq_true ha, Bool.true_or]
    clear ha
    go_enter Tryd.func33, Tryd.ntmps33
    go_upto_region 1 with fail
    rw [← hh2'.out, ← hh3'.out, ← hW0'.out]
    go_wp2_with fail
    go_ret
    exact ⟨rfl, hF0.out⟩
  · have hai : ¬ (60 : Int) < (na : Int) := by omega
    rw [decide_eq_false ha, Bool.false_or]
    clear ha
    by_cases hb : 60 < nb
    · have hbi : (60 : Int) < (nb : Int) := by omega
      rw [decide_eq_true hb]
      clear hb
      go_enter Tryd.func33, Tryd.ntmps33
      go_upto_region 1 with fail
      rw [← hh2'.out, ← hh3'.out, ← hW0'.out]
      go_wp2_with fail
      go_ret
      exact ⟨rfl, hF0.out⟩
    · have hbi : ¬ (60 : Int) < (nb : Int) := by omega
      rw [decide_eq_false hb]
      clear hb
      go_enter Tryd.func33, Tryd.ntmps33
      go_upto_region 1 with fail
      rw [← hh2'.out, ← hh3'.out, ← hW0'.out]
      go_wp2_with fail
      go_ret
      exact ⟨rfl, hF0.out⟩
end
end Go.Proofs.YtkobbcmndneajaaDoor
/-! ## QKRef: The document's product: numbers of cells; Product where there is none. -/
namespace Go.Proofs.YtkobbcmndneajaaDoor
open Go.RowKit Go.Shelf
set_option linter.unusedVariables false
set_option linter.unusedSimpArgs false
theorem kronR_len (q : Nat) (x : Nat × Nat) (l : List (Nat × Nat)) : (kronR q x l).length = l.length := by simp [kronR]
theorem kronL_len (q : Nat) (l : List (Nat × Nat)) : ∀ k : List (Nat × Nat), (kronL q k l).length = k.length * l.length
  | [] => by simp [kronL]
  | x :: k => by
    have h := kronL_len q l k
    unfold kronL at h ⊢
    rw [List.flatMap_cons, List.length_append, kronR_len, h, List.length_cons, Nat.succ_mul, Nat.add_comm]
/-- The cells told when i rows of the outer list and j of the inner one are done. -/
theorem kron_sofar {q i j : Nat} {k l : List (Nat × Nat)} {x : Nat × Nat} (hi : i < k.length) (hj : j ≤ l.length) : (kronL q (k.take i) l ++ kronR q x (l.take j)).length ≤ k.length * l.length := by
  rw [List.length_append, kronL_len, kronR_len, List.length_take, List.length_take, Nat.min_eq_left (by omega), Nat.min_eq_left hj]
  have h1 : (i + 1) * l.length ≤ k.length * l.length := Nat.mul_le_mul_right _ hi
  rw [Nat.succ_mul] at h1
  omega
theorem kron_step {q i j : Nat} {k l : List (Nat × Nat)} {x y : Nat × Nat} (hj : l[j]? = some y) : kronL q (k.take i) l ++ kronR q x (l.take (j + 1)) = (kronL q (k.take i) l ++ kronR q x (l.take j)) ++ [(x.1 * q + y.1, x.2 * q + y.2)] := by
  rw [List.take_add_one, hj, Option.toList_some, kronR_app, List.append_assoc]
theorem kron_round {q i : Nat} {k l : List (Nat × Nat)} {x : Nat × Nat} (hi : k[i]? = some x) : kronL q (k.take i) l ++ kronR q x (l.take l.length) = kronL q (k.take (i + 1)) l := by
  rw [List.take_length, List.take_add_one, hi, Option.toList_some, kronL_app]
theorem kron_few {p q : Nat} (A B : Nat → Nat → Bool) (h : p * q ≤ 1024) : (cellsL A p).length * (cellsL B q).length ≤ 1048576 := by
  have h1 : (cellsL A p).length ≤ p * p := cellsK_le A p p
  have h2 : (cellsL B q).length ≤ q * q := cellsK_le B q q
  have h3 : (p * p) * (q * q) = (p * q) * (p * q) := by rw [Nat.mul_mul_mul_comm]
  have h4 : (p * q) * (p * q) ≤ 1024 * 1024 := Nat.mul_le_mul h h
  have h5 := Nat.mul_le_mul h1 h2
  omega
section
set_option maxHeartbeats 4000000
set_option maxRecDepth 100000
theorem rKron_no {w : World} {va vb : Value} {p q : Nat} {A B : Nat → Nat → Bool} (ha : Dm w va p A) (hb : Dm w vb q B) (hE : kronE p q ≠ 0) : Calls Tryd.prog 37 #[va, vb] w fun e w' => ∃ v, e = .returned (.tuple #[v, .int .i64 (kronE p q : Nat)]) ∧ Dm w' v 0 zeroM ∧ Dn v w.heap.size ∧ Far (fun _ => False) w w' := by
  obtain ⟨aoa, ca, rfl, _, _, hs1, _⟩ := ha
  obtain ⟨aob, cb, rfl, _, _, hs2, _⟩ := hb
  obtain ⟨na, hna⟩ : ∃ n, (cellsL A p).length = n := ⟨_, rfl⟩
  obtain ⟨nb, hnb⟩ : ∃ n, (cellsL B q).length = n := ⟨_, rfl⟩
  rw [hna, hnb]
  clear hna hnb
  obtain ⟨h2, hh2⟩ : ∃ h, h = w.heap.size := ⟨_, rfl⟩
  obtain ⟨h3, hh3⟩ : ∃ h, h = h2 + 1 := ⟨_, rfl⟩
  obtain ⟨h4, hh4⟩ : ∃ h, h = h3 + 1 := ⟨_, rfl⟩
  obtain ⟨W0, hW0⟩ : ∃ V, V = ((w.alloc (.cells #[.int .i64 (p : Nat), .slice aoa na ca] 28)).alloc (.cells #[.int .i64 (q : Nat), .slice aob nb cb] 28)).alloc (.cells #[.int .i64 0, .slice none 0 0] 28) := ⟨_, rfl⟩
  have hF0 : Far (fun _ => False) w W0 := hW0 ▸ (((Far.refl _ w).alloc _).alloc _).alloc _
  have hB2 : Bk W0 h2 28 #[.int .i64 (p : Nat), .slice aoa na ca] := hW0 ▸ ((Bk.new hh2).alloc _).alloc _
  have hB3 : Bk W0 h3 28 #[.int .i64 (q : Nat), .slice aob nb cb] := hW0 ▸ (Bk.new (by simp [hh3, hh2])).alloc _
  have hB4 : Bk W0 h4 28 #[.int .i64 0, .slice none 0 0] := hW0 ▸ Bk.new (by simp [hh4, hh3, hh2])
  have b20 : W0.cell? ⟨h2, 0, none⟩ = some (.int .i64 (p : Nat)) := hB2.cell 0
  have b30 : W0.cell? ⟨h3, 0, none⟩ = some (.int .i64 (q : Nat)) := hB3.cell 0
  have d0 : W0.cell? ⟨h4, 0, none⟩ = some (.int .i64 0) := hB4.cell 0
  have d1 : W0.cell? ⟨h4, 1, none⟩ = some (.slice none 0 0) := hB4.cell 1
  have f0 := hB4.free 0
  have f1 := hB4.free 1
  have hh2' := Lib.hid hh2
  have hh3' := Lib.hid hh3
  have hh4' := Lib.hid hh4
  have hW0' := Lib.hid hW0
  obtain ⟨w7, hw7⟩ : ∃ V, V = (W0.setCell ⟨h4, 0, none⟩ (.int .i64 0)).setCell ⟨h4, 1, none⟩ (.slice none 0 0) := ⟨_, rfl⟩
  have hB7 : Bk w7 h4 28 #[.int .i64 0, .slice none 0 0] := hw7 ▸ (hB4.set 0 _).set 1 _
  have hf67 : Far (fun k => k = h4) W0 w7 := hw7 ▸ ((Far.refl (fun k => k = h4) W0).set ⟨h4, 0, none⟩ _ fun _ => rfl).set ⟨h4, 1, none⟩ _ fun _ => rfl
  have hf7 := Lib.hid (show Far (fun _ => False) w w7 from hF0.trans hf67 fun k hk e => by omega)
  have c0 : w7.cell? ⟨h4, 0, none⟩ = some (.int .i64 0) := hB7.cell 0
  have c1 : w7.cell? ⟨h4, 1, none⟩ = some (.slice none 0 0) := hB7.cell 1
  have hw7' := Lib.hid hw7
  clear hh2 hh3 hh4 hW0 hF0 hB2 hB3 hB4 hw7 hB7 hf67
  by_cases h0 : p = 0
  · have e : kronE p q = 1 := by unfold kronE; rw [if_pos (.inl h0)]
    rw [e]
    have hs0 : ((p : Int) == 0) = true := by simp; omega
    clear e h0 hE
    go_enter Tryd.func37, Tryd.ntmps37
    go_upto_region 1 with fail
    rw [← hh2'.out, ← hh3'.out, ← hh4'.out, ← hW0'.out]
    go_wp2_with fail
    (try simp only [Exit.inBlock, Exit.then])
    rw [← hw7'.out]
    exact bodyPost_ret (v := .tuple #[.agg #[.int .i64 0, .slice none 0 0], .int .i64 1]) (by simp [results, Tryd.f37, go_sem, c0, c1]) rfl ⟨_, rfl, Dm.none _, Dn.none _, hf7.out⟩
  · have hs0 : ((p : Int) == 0) = false := by simp; omega
    by_cases h1 : q = 0
    · have e : kronE p q = 1 := by unfold kronE; rw [if_pos (.inr h1)]
      rw [e]
      have hs1 : ((q : Int) == 0) = true := by simp; omega
      clear e h0 h1 hE
      go_enter Tryd.func37, Tryd.ntmps37
      go_upto_region 1 with fail
      rw [← hh2'.out, ← hh3'.out, ← hh4'.out, ← hW0'.out]
      go_wp2_with fail
      (try simp only [Exit.inBlock, Exit.then])
      rw [← hw7'.out]
      exact bodyPost_ret (v := .tuple #[.agg #[.int .i64 0, .slice none 0 0], .int .i64 1]) (by simp [results, Tryd.f37, go_sem, c0, c1]) rfl ⟨_, rfl, Dm.none _, Dn.none _, hf7.out⟩
    · have h2' : 1024 < p * q := by
        by_cases h : 1024 < p * q
        · exact h
        · exact absurd (show kronE p q = 0 by unfold kronE; rw [if_neg (by omega), if_neg h]) hE
      have e : kronE p q = 5 := by unfold kronE; rw [if_neg (by omega), if_pos h2']
      rw [e]
      have hs1' : ((q : Int) == 0) = false := by simp; omega
      obtain ⟨m, hm⟩ : ∃ m, m = p * q := ⟨_, rfl⟩
      have hmu : (p : Int) * (q : Int) = (m : Int) := by rw [hm, Int.natCast_mul]
      have hm3 : m ≤ 1048576 := by rw [hm]; exact Nat.mul_le_mul hs1 hs2
      have hm4 : (1024 : Int) < (m : Int) := by omega
      have hwm : IntKind.i64.wrap (m : Int) = (m : Int) := by rw [IntKind.wrap_i64]; omega
      clear e h0 h1 hE h2' hm
      go_enter Tryd.func37, Tryd.ntmps37
      go_upto_region 1 with fail
      rw [← hh2'.out, ← hh3'.out, ← hh4'.out, ← hW0'.out]
      go_wp2_with fail
      (try simp only [Exit.inBlock, Exit.then])
      rw [← hw7'.out]
      exact bodyPost_ret (v := .tuple #[.agg #[.int .i64 0, .slice none 0 0], .int .i64 5]) (by simp [results, Tryd.f37, go_sem, c0, c1]) rfl ⟨_, rfl, Dm.none _, Dn.none _, hf7.out⟩
end
end Go.Proofs.YtkobbcmndneajaaDoor
/-! ## QKRefP: The document's Kronecker product of two matrices. -/
namespace Go.Proofs.YtkobbcmndneajaaDoor
open Go.RowKit Go.Shelf
set_option linter.unusedVariables false
set_option linter.unusedSimpArgs false
theorem wrap_n {m : Nat} (h : m ≤ 4194304) : IntKind.i64.wrap (m : Int) = (m : Int) := by rw [IntKind.wrap_i64]; omega
theorem own_cap {w : World} {base n oc : Nat} {oo : Option Addr} {xs : List Value} (h : w.ownsRow base 82 2 (.slice oo n oc) n xs) : n ≤ oc := by
  rcases h.2 with ⟨e1, e2⟩ | ⟨g, c2, cur, e1, _, _, h5, _⟩
  · cases e1; omega
  · cases e1; exact h5
theorem nat_beq0' {a : Nat} (h : a ≠ 0) : ((a : Int) == 0) = false := by simp; omega
section
set_option maxHeartbeats 8000000
set_option maxRecDepth 100000
theorem rkprod_yes {w : World} {va vb : Value} {p q : Nat} {A B : Nat → Nat → Bool} (ha : Dm w va p A) (hb : Dm w vb q B) (hp : 1 ≤ p) (hq : 1 ≤ q) (hpq : p * q ≤ 1024) : Calls Tryd.prog 90 #[va, vb] w fun e w' => ∃ v, e = .returned v ∧ Dm w' v (p * q) (kronM A B q) ∧ Dn v w.heap.size ∧ Far (fun _ => False) w w' := by
  have hlenA := ha.len
  have hlenB := hb.len
  have hfew := kron_few A B hpq
  obtain ⟨aoa, ca, rfl, hPa, hca, hsa, hwa⟩ := ha
  obtain ⟨aob, cb, rfl, hPb, hcb, hsb, hwb⟩ := hb
  have hwk := kronM_within (B := B) hq hwa
  have hmem : ∀ x : Nat × Nat, x ∈ kronL q (cellsL A p) (cellsL B q) ↔ kronM A B q x.1 x.2 = true := fun x => mem_kronL hq hwa hwb
  have hmA : ∀ (i : Nat) (x : Nat × Nat), (cellsL A p)[i]? = some x → x.1 < p ∧ x.2 < p := fun i x h => hwa _ _ ((mem_cellsL hwa).1 (List.mem_of_getElem? h))
  have hmB : ∀ (i : Nat) (x : Nat × Nat), (cellsL B q)[i]? = some x → x.1 < q ∧ x.2 < q := fun i x h => hwb _ _ ((mem_cellsL hwb).1 (List.mem_of_getElem? h))
  obtain ⟨LA, hLA⟩ : ∃ L, cellsL A p = L := ⟨_, rfl⟩
  obtain ⟨LB, hLB⟩ : ∃ L, cellsL B q = L := ⟨_, rfl⟩
  rw [hLA] at hPa hca hlenA hfew hmem hmA ⊢
  rw [hLB] at hPb hcb hlenB hfew hmem hmB ⊢
  obtain ⟨na, hna⟩ : ∃ n, LA.length = n := ⟨_, rfl⟩
  obtain ⟨nb, hnb⟩ : ∃ n, LB.length = n := ⟨_, rfl⟩
  rw [hna] at hca hlenA ⊢
  rw [hnb] at hcb hlenB ⊢
  obtain ⟨s, hs⟩ : ∃ s, p * q = s := ⟨_, rfl⟩
  have hmu : (p : Int) * (q : Int) = (s : Int) := by rw [← hs, Int.natCast_mul]
  rw [hs] at hpq hwk ⊢
  have hws := wrap_n (m := s) (by omega)
  obtain ⟨h2, hh2⟩ : ∃ h, h = w.heap.size := ⟨_, rfl⟩
  obtain ⟨h3, hh3⟩ : ∃ h, h = h2 + 1 := ⟨_, rfl⟩
  obtain ⟨h4, hh4⟩ : ∃ h, h = h3 + 1 := ⟨_, rfl⟩
  obtain ⟨W0, hW0⟩ : ∃ V, V = ((w.alloc (.cells #[.int .i64 (p : Nat), .slice aoa na ca] 28)).alloc (.cells #[.int .i64 (q : Nat), .slice aob nb cb] 28)).alloc (.cells #[.int .i64 0, .slice none 0 0] 28) := ⟨_, rfl⟩
  have hF0 : Far (fun _ => False) w W0 := hW0 ▸ (((Far.refl _ w).alloc _).alloc _).alloc _
  have hB2 : Bk W0 h2 28 #[.int .i64 (p : Nat), .slice aoa na ca] := hW0 ▸ ((Bk.new hh2).alloc _).alloc _
  have hB3 : Bk W0 h3 28 #[.int .i64 (q : Nat), .slice aob nb cb] := hW0 ▸ (Bk.new (by simp [hh3, hh2])).alloc _
  have hB4 : Bk W0 h4 28 #[.int .i64 0, .slice none 0 0] := hW0 ▸ Bk.new (by simp [hh4, hh3, hh2])
  have n42 : h4 ≠ h2 := by omega
  have n43 : h4 ≠ h3 := by omega
  have hnum := Lib.hid (show h2 = w.heap.size ∧ h3 = h2 + 1 ∧ h4 = h3 + 1 from ⟨hh2, hh3, hh4⟩)
  have HB := Lib.hid (show ∀ V, Far (fun _ => False) W0 V → V.cell? ⟨h2, 0, none⟩ = some (.int .i64 (p : Nat)) ∧ V.cell? ⟨h2, 1, none⟩ = some (.slice aoa na ca) ∧ V.cell? ⟨h3, 0, none⟩ = some (.int .i64 (q : Nat)) ∧ V.cell? ⟨h3, 1, none⟩ = some (.slice aob nb cb) from fun V hf => ⟨(hB2.far' hf id).cell 0, (hB2.far' hf id).cell 1, (hB3.far' hf id).cell 0, (hB3.far' hf id).cell 1⟩)
  have HP := Lib.hid (show ∀ V, Far (fun _ => False) W0 V → PL V aoa LA ∧ PL V aob LB from fun V hf => ⟨hPa.move (hF0.then hf), hPb.move (hF0.then hf)⟩)
  obtain ⟨z20, z21, z30, z31⟩ := HB.out W0 (Far.refl _ _)
  have hLA' := Lib.hid hLA
  have hLB' := Lib.hid hLB
  have hna' := Lib.hid hna
  have hnb' := Lib.hid hnb
  have hwk' := Lib.hid hwk
  have hmem' := Lib.hid hmem
  have hmA' := Lib.hid hmA
  have hmB' := Lib.hid hmB
  have hfew' := Lib.hid (show na * nb ≤ 1048576 by rw [← hna, ← hnb]; exact hfew)
  have hW0' := Lib.hid hW0
  have hF0' := Lib.hid hF0
  have hB4' := Lib.hid hB4
  have e2 := Lib.hid hh2
  have e3 := Lib.hid hh3
  have e4 := Lib.hid hh4
  have hs' := Lib.hid hs
  clear hPa hPb hLA hLB hna hnb hwa hwb hwk hmem hmA hmB hfew hW0 hF0 hB2 hB3 hB4 hh2 hh3 hh4 hs
  go_enter Tryd.func90, Tryd.ntmps90
  go_upto_region 1 with fail
  rw [← e2.out, ← e3.out, ← e4.out, ← hW0'.out]
  go_wp2_with fail
  clear z20 z21 z30 z31
  go_loopw [5, 6] (fun lv iv wr => ∃ i : Nat, i ≤ na ∧ iv = .int .i64 (i : Nat) ∧ wr.ownsRow W0.heap.size 82 2 lv (kronL q (LA.take i) LB).length (ccells (kronL q (LA.take i) LB)) ∧ Far (fun _ => False) W0 wr) (fun _ iv _ => na - (intOf iv).toNat)
  case atStart => exact ⟨0, Nat.zero_le _, rfl, World.ownsRow_nil _ _ _ _, Far.refl _ _⟩
  case round =>
    obtain ⟨i, hi, rfl, hO, hf⟩ := hrel
    obtain ⟨wo, hwo⟩ : ∃ wo, wo = wr := ⟨_, rfl⟩
    rw [← hwo] at hO hf ⊢
    clear hwo
    obtain ⟨b20, b21, b30, b31⟩ := HB.out wo hf
    by_cases hlt : i < na
    · have hii : (i : Int) < (na : Int) := by omega
      have hib : (i : Int) + 1 ≤ 9223372036854775807 := by omega
      obtain ⟨⟨a1, a2⟩, hxa⟩ := atS (l := LA) (k := i) (by rw [hna'.out]; exact hlt)
      obtain ⟨ha1, ha2⟩ := hmA'.out i _ hxa
      have hxa' := Lib.hid hxa
      obtain ⟨K, hK⟩ : ∃ K, K = kronL q (LA.take i) LB := ⟨_, rfl⟩
      rw [← hK] at hO
      have hO' := Lib.hid hO
      have hf' := Lib.hid hf
      have hK' := Lib.hid hK
      obtain ⟨m1, hm1⟩ : ∃ m, m = a1 * q := ⟨_, rfl⟩
      obtain ⟨m2, hm2⟩ : ∃ m, m = a2 * q := ⟨_, rfl⟩
      have hm1' := Lib.hid hm1
      have hm2' := Lib.hid hm2
      have hmu1 : (a1 : Int) * (q : Int) = (m1 : Int) := by rw [hm1, Int.natCast_mul]
      have hmu2 : (a2 : Int) * (q : Int) = (m2 : Int) := by rw [hm2, Int.natCast_mul]
      have hl1 : m1 + q ≤ s := by
        rw [hm1, ← hs'.out]
        have := Nat.mul_le_mul_right q (show a1 + 1 ≤ p from ha1)
        rwa [Nat.succ_mul] at this
      have hl2 : m2 + q ≤ s := by
        rw [hm2, ← hs'.out]
        have := Nat.mul_le_mul_right q (show a2 + 1 ≤ p from ha2)
        rwa [Nat.succ_mul] at this
      have hw1 := wrap_n (m := m1) (by omega)
      have hw2 := wrap_n (m := m2) (by omega)
      clear hxa hO hf hK hm1 hm2
      go_wp2_with fail
      clear b20 b21 b30 b31
      go_loopw [5, 7] (fun lv jv wr => ∃ j : Nat, j ≤ nb ∧ jv = .int .i64 (j : Nat) ∧ wr.ownsRow W0.heap.size 82 2 lv (K ++ kronR q (a1, a2) (LB.take j)).length (ccells (K ++ kronR q (a1, a2) (LB.take j))) ∧ Far (fun _ => False) W0 wr) (fun _ jv _ => nb - (intOf jv).toNat)
      case atStart => exact ⟨0, Nat.zero_le _, rfl, by rw [List.take_zero, kronR_nil, List.append_nil]; exact hO'.out, hf'.out⟩
      case round =>
        obtain ⟨j, hj, rfl, hO, hf⟩ := hrel
        obtain ⟨wd, hwd⟩ : ∃ wd, wd = wr := ⟨_, rfl⟩
        rw [← hwd] at hO hf ⊢
        clear hwd
        obtain ⟨b20, b21, b30, b31⟩ := HB.out wd hf
        by_cases hjt : j < nb
        · have hji : (j : Int) < (nb : Int) := by omega
          have hjb : (j : Int) + 1 ≤ 9223372036854775807 := by omega
          obtain ⟨⟨b1, b2⟩, hxb⟩ := atS (l := LB) (k := j) (by rw [hnb'.out]; exact hjt)
          obtain ⟨hb1, hb2⟩ := hmB'.out j _ hxb
          obtain ⟨hPA, hPB⟩ := HP.out wd hf
          obtain ⟨ga, oa, rfl, hga, pa0, pa1⟩ := hPA.at hxa'.out
          obtain ⟨gb, ob, rfl, hgb, pb0, pb1⟩ := hPB.at hxb
          obtain ⟨i1, hi1⟩ : ∃ m, m = m1 + b1 := ⟨_, rfl⟩
          obtain ⟨i2, hi2⟩ : ∃ m, m = m2 + b2 := ⟨_, rfl⟩
          have had1 : (m1 : Int) + (b1 : Int) = (i1 : Int) := by omega
          have had2 : (m2 : Int) + (b2 : Int) = (i2 : Int) := by omega
          have hv1 := wrap_n (m := i1) (by omega)
          have hv2 := wrap_n (m := i2) (by omega)
          obtain ⟨O, hOO⟩ : ∃ O, O = K ++ kronR q (a1, a2) (LB.take j) := ⟨_, rfl⟩
          obtain ⟨n, hn⟩ : ∃ n, n = O.length := ⟨_, rfl⟩
          have hnn : n ≤ 1048575 := by
            have h1 := kron_step (q := q) (i := i) (k := LA) (x := (a1, a2)) hxb
            have h2 := kron_sofar (q := q) (i := i) (j := j + 1) (k := LA) (l := LB) (x := (a1, a2)) (by rw [hna'.out]; exact hlt) (by rw [hnb'.out]; omega)
            rw [h1, ← hK'.out, ← hOO, List.length_append, ← hn, hna'.out, hnb'.out] at h2
            have := hfew'.out
            simp only [List.length_cons, List.length_nil] at h2
            omega
          have hst := Lib.hid (show K ++ kronR q (a1, a2) (LB.take (j + 1)) = O ++ [(i1, i2)] by
            have h1 := kron_step (q := q) (i := i) (k := LA) (x := (a1, a2)) hxb
            rw [← hK'.out, ← hOO] at h1
            rw [h1, hi1, hi2, hm1'.out, hm2'.out])
          rw [← hOO, ← hn] at hO
          obtain ⟨oo, oc, rfl⟩ := q_form hO
          have hO2 := Lib.hid hO
          have hf2 := Lib.hid hf
          have hn' := Lib.hid hn
          have HS := Lib.hid (show ∀ V, Far (fun _ => False) W0 V → V.cell? ⟨h2, 1, none⟩ = some (.slice (some ⟨ga, oa, none⟩) na ca) ∧ V.cell? ⟨h3, 0, none⟩ = some (.int .i64 (q : Nat)) ∧ V.cell? ⟨h3, 1, none⟩ = some (.slice (some ⟨gb, ob, none⟩) nb cb) ∧ V.cell? ⟨ga, oa + i * 2, none⟩ = some (.int .i64 (a1 : Nat)) ∧ V.cell? ⟨ga, oa + i * 2 + 1, none⟩ = some (.int .i64 (a2 : Nat)) ∧ V.cell? ⟨gb, ob + j * 2, none⟩ = some (.int .i64 (b1 : Nat)) ∧ V.cell? ⟨gb, ob + j * 2 + 1, none⟩ = some (.int .i64 (b2 : Nat)) from fun V hV => by
            obtain ⟨_, q21, q30, q31⟩ := HB.out V hV
            obtain ⟨hQA, hQB⟩ := HP.out V hV
            obtain ⟨g, o, e, _, r0, r1⟩ := hQA.at hxa'.out
            obtain ⟨g', o', e', _, r0', r1'⟩ := hQB.at hxb
            cases e
            cases e'
            exact ⟨q21, q30, q31, r0, r1, r0', r1'⟩)
          obtain ⟨ci, hci, hz0, hz1, hz2⟩ := info_parts cellInfo
          have C1 := Lib.hid (World.ownsRow.alloc (show World.ownsRow wd.drew _ _ _ _ _ _ from hO) (.cells #[.int .i64 (i1 : Nat), .int .i64 (i2 : Nat)] 82))
          have C7 := Lib.hid (World.news_of_block (w := wd.drew.alloc (.cells #[.int .i64 (i1 : Nat), .int .i64 (i2 : Nat)] 82)) (cs := #[.int .i64 (i1 : Nat), .int .i64 (i2 : Nat)]) (t := 82) (fr := (0, 0)) (heap_alloc_new wd.drew _))
          have C3 := Lib.hid (show ∀ u ∈ [(.int .i64 (i1 : Nat) : Value), .int .i64 (i2 : Nat)], u.oneCell' = true by simp [Value.oneCell'])
          have C4 : n + 1 ≤ maxLen := by unfold maxLen; omega
          have C5 : (n + 1) * 16 ≤ 140737488355328 := by omega
          have hfe1 := Lib.hid (hf.then (Far.refl (fun _ => False) wd).drew)
          have hfe2 := Lib.hid (hfe1.out.alloc (.cells #[.int .i64 (i1 : Nat), .int .i64 (i2 : Nat)] 82))
          have C6 : W0.heap.size ≤ (wd.drew.alloc (.cells #[.int .i64 (i1 : Nat), .int .i64 (i2 : Nat)] 82)).heap.size := hfe2.out.size
          have hiB : (0 : Int) ≤ (i : Int) := by omega
          have hjB : (0 : Int) ≤ (j : Int) := by omega
          clear hxb hPA hPB hOO hn hO hf hi1 hi2
          go_upto_region 8 with fail
          go_region_held3 (fun V => V.cell? ⟨h2, 1, none⟩ = some (.slice (some ⟨ga, oa, none⟩) na ca) ∧ V.cell? ⟨h3, 0, none⟩ = some (.int .i64 (q : Nat)) ∧ V.cell? ⟨h3, 1, none⟩ = some (.slice (some ⟨gb, ob, none⟩) nb cb) ∧ V.cell? ⟨ga, oa + i * 2, none⟩ = some (.int .i64 (a1 : Nat)) ∧ V.cell? ⟨ga, oa + i * 2 + 1, none⟩ = some (.int .i64 (a2 : Nat)) ∧ V.cell? ⟨gb, ob + j * 2, none⟩ = some (.int .i64 (b1 : Nat)) ∧ V.cell? ⟨gb, ob + j * 2 + 1, none⟩ = some (.int .i64 (b2 : Nat))) (first | exact HS.out _ hfe1.out | exact HS.out _ hfe2.out | exact HS.out _ hF6.out)
            ((refine step_append_lies _ rfl (.tmp 22) (.tmp 56) 26 rfl W0.heap.size 82 ci _ 2 16 Tryd.underlying26 hci hz0 hz1 hz2 rfl (by decide) (.slice oo n oc) n _ rfl C1.out ⟨wd.heap.size, 0, none⟩ 1 1 [.int .i64 (i1 : Nat), .int .i64 (i2 : Nat)] rfl rfl C7.out C3.out (by decide) C4 C5 C6 _ rfl ?_; intro g5 c5 w6 ho6 hg6 hw6 _; have hF6 := Lib.hid (hfe2.out.trans (grown_F hg6) fun k hk e => by { have := (own_type C1.out e).1; omega }); have ho6' := Lib.hid ho6; clear ho6 hg6 hw6))
          go_wp2_with fail
          go_roundw
          case rel => exact ⟨j + 1, by omega, by go_num, by rw [hst.out, List.length_append, List.length_singleton, ← hn'.out, ccells_app]; exact ho6'.out, hF6.out⟩
          case measure => simp only [intOf]; omega
        · have e : j = nb := by omega
          have hO9 := Lib.hid (show wd.ownsRow W0.heap.size 82 2 _ (kronL q (LA.take (i + 1)) LB).length (ccells (kronL q (LA.take (i + 1)) LB)) by
            have h1 := kron_round (q := q) (i := i) (l := LB) hxa'.out
            rw [← hK'.out] at h1
            rw [← h1, hnb'.out, ← e]
            exact hO)
          have hf9 := Lib.hid hf
          clear hO hf e
          go_wp2_with fail
          go_roundw
          case rel => exact ⟨i + 1, by omega, by go_num, hO9.out, hf9.out⟩
          case measure => simp only [intOf]; omega
    · have e : i = na := by omega
      have hO9 := hO
      rw [show LA.take i = LA by rw [e, ← hna'.out, List.take_length]] at hO9
      obtain ⟨n, hn⟩ : ∃ n, n = (kronL q LA LB).length := ⟨_, rfl⟩
      rw [← hn] at hO9
      obtain ⟨oo, oc, rfl⟩ := q_form hO9
      have hoc := own_cap hO9
      have hnn : n ≤ 1048576 := by rw [hn, kronL_len, hna'.out, hnb'.out]; exact hfew'.out
      have ST := sorted_any _ (kronL q LA LB) (Nat.le_refl _) n oo oc wo.drew hn hoc (by omega) (fun x hx => by
        have := hwk'.out _ _ ((hmem'.out x).1 hx)
        omega) (PL.own (show World.ownsRow wo.drew _ _ _ _ _ _ from hO9) hn)
      have hf' := Lib.hid hf
      have hfd := Lib.hid (hf.then (Far.refl (fun _ => False) wo).drew)
      clear hO hO9 e hf hn
      go_upto_region 9 with fail
      go_region_held3 (fun V => V.cell? ⟨h2, 0, none⟩ = some (.int .i64 (p : Nat)) ∧ V.cell? ⟨h3, 0, none⟩ = some (.int .i64 (q : Nat))) (first | exact ⟨(HB.out _ hfd.out).1, (HB.out _ hfd.out).2.2.1⟩ | exact ⟨(HB.out _ hf9.out).1, (HB.out _ hf9.out).2.2.1⟩ | go_keep)
        ((go_at_call 52; refine ST.mono ?_; rintro e w9 ⟨v, rfl, o, hown, hr, hm, hlen, hfs⟩; obtain ⟨vo, vc, rfl⟩ := q_form hown; have hf9 := Lib.hid (hfd.out.then hfs); have hB9 := Lib.hid (hB4'.out.far' (hfd.out.then hfs) id); have d0 : w9.cell? ⟨h4, 0, none⟩ = some (.int .i64 0) := hB9.out.cell 0; have d1 : w9.cell? ⟨h4, 1, none⟩ = some (.slice none 0 0) := hB9.out.cell 1; have f0 := hB9.out.free 0; have f1 := hB9.out.free 1; obtain ⟨c20, _, c30, _⟩ := HB.out w9 hf9.out; have hown' := Lib.hid hown; have hr' := Lib.hid hr; have hm' := Lib.hid hm; obtain ⟨m, hm9⟩ : ∃ m, m = o.length := ⟨_, rfl⟩; rw [← hm9] at hown' ⊢; have hm9' := Lib.hid hm9; clear hown hr hm hlen hfs hm9))
      go_wp2_with fail
      (try simp only [Exit.inBlock, Exit.then])
      obtain ⟨w7, hw7⟩ : ∃ V, V = (w9.setCell ⟨h4, 0, none⟩ (.int .i64 (s : Nat))).setCell ⟨h4, 1, none⟩ (.slice vo m vc) := ⟨_, rfl⟩
      have hB7 : Bk w7 h4 28 #[.int .i64 (s : Nat), .slice vo m vc] := hw7 ▸ (hB9.out.set 0 _).set 1 _
      have hf67 : Far (fun q => q = h4) w9 w7 := hw7 ▸ ((Far.refl (fun q => q = h4) w9).set ⟨h4, 0, none⟩ _ fun _ => rfl).set ⟨h4, 1, none⟩ _ fun _ => rfl
      have hf7 : Far (fun _ => False) w w7 := (hF0'.out.then hf9.out).trans hf67 fun q hq e => by have := hnum.out; omega
      have c0 : w7.cell? ⟨h4, 0, none⟩ = some (.int .i64 (s : Nat)) := hB7.cell 0
      have c1 : w7.cell? ⟨h4, 1, none⟩ = some (.slice vo m vc) := hB7.cell 1
      have ho7 := row_same hown'.out fun q hq hl => hf67.block q hl fun e => by
        obtain ⟨_, _, cs, hb2⟩ := own_type hown'.out hq
        rw [e] at hb2
        have := bk_type hb2 hB9.out
        revert this; decide
      have hDn : Dn (.agg #[.int .i64 (s : Nat), .slice vo m vc]) w.heap.size := fun _ _ _ _ e a ha => by
        cases e
        subst ha
        obtain ⟨h1, _⟩ := own_type hown'.out (k := a.block) rfl
        have := (hF0'.out.then hfd.out).size
        omega
      have hD : Dm w7 (.agg #[.int .i64 (s : Nat), .slice vo m vc]) s (kronM A B q) := Dm.own hpq hwk'.out hr'.out (fun x => (hm'.out x).trans (hmem'.out x)) ho7 hm9'.out
      rw [← hw7]
      exact bodyPost_ret (v := .agg #[.int .i64 (s : Nat), .slice vo m vc]) (by simp [results, Tryd.f90, go_sem, c0, c1]) rfl ⟨_, rfl, hD, hDn, hf7⟩
theorem rkron_any {w : World} {va vb : Value} {p q : Nat} {A B : Nat → Nat → Bool} (ha : Dm w va p A) (hb : Dm w vb q B) : Calls Tryd.prog 37 #[va, vb] w fun e w' => ∃ v, e = .returned (.tuple #[v, .int .i64 (kronE p q : Nat)]) ∧ Dm w' v (kronS p q) (kronMM p q A B) ∧ Dn v w.heap.size ∧ Far (fun _ => False) w w' := by
  unfold kronS kronMM
  by_cases hE : kronE p q = 0
  · have hpq : (p ≠ 0 ∧ q ≠ 0) ∧ p * q ≤ 1024 := by
      unfold kronE at hE
      split at hE
      · cases hE
      · split at hE
        · cases hE
        · omega
    obtain ⟨⟨p0, q0⟩, hpq⟩ := hpq
    rw [hE, if_pos rfl, if_pos rfl]
    clear hE
    have RP := fun (V : World) (hf : Far (fun _ => False) w V) => rkprod_yes (ha.move hf) (hb.move hf) (by omega) (by omega) hpq
    obtain ⟨aoa, ca, rfl, _, _, hsa, _⟩ := ha
    obtain ⟨aob, cb, rfl, _, _, hsb, _⟩ := hb
    obtain ⟨na, hna⟩ : ∃ n, (cellsL A p).length = n := ⟨_, rfl⟩
    obtain ⟨nb, hnb⟩ : ∃ n, (cellsL B q).length = n := ⟨_, rfl⟩
    rw [hna, hnb] at RP ⊢
    obtain ⟨s, hs⟩ : ∃ s, p * q = s := ⟨_, rfl⟩
    have hmu : (p : Int) * (q : Int) = (s : Int) := by rw [← hs, Int.natCast_mul]
    rw [hs] at hpq RP ⊢
    have hws := wrap_n (m := s) (by omega)
    have hs4 : ¬ (1024 : Int) < (s : Int) := by omega
    have a0 := nat_beq0' p0
    have b0 := nat_beq0' q0
    obtain ⟨h2, hh2⟩ : ∃ h, h = w.heap.size := ⟨_, rfl⟩
    obtain ⟨h3, hh3⟩ : ∃ h, h = h2 + 1 := ⟨_, rfl⟩
    obtain ⟨h4, hh4⟩ : ∃ h, h = h3 + 1 := ⟨_, rfl⟩
    obtain ⟨W0, hW0⟩ : ∃ V, V = ((w.alloc (.cells #[.int .i64 (p : Nat), .slice aoa na ca] 28)).alloc (.cells #[.int .i64 (q : Nat), .slice aob nb cb] 28)).alloc (.cells #[.int .i64 0, .slice none 0 0] 28) := ⟨_, rfl⟩
    have hF0 : Far (fun _ => False) w W0 := hW0 ▸ (((Far.refl _ w).alloc _).alloc _).alloc _
    have hB2 : Bk W0 h2 28 #[.int .i64 (p : Nat), .slice aoa na ca] := hW0 ▸ ((Bk.new hh2).alloc _).alloc _
    have hB3 : Bk W0 h3 28 #[.int .i64 (q : Nat), .slice aob nb cb] := hW0 ▸ (Bk.new (by simp [hh3, hh2])).alloc _
    have hB4 : Bk W0 h4 28 #[.int .i64 0, .slice none 0 0] := hW0 ▸ Bk.new (by simp [hh4, hh3, hh2])
    have z20 : W0.cell? ⟨h2, 0, none⟩ = some (.int .i64 (p : Nat)) := hB2.cell 0
    have z21 : W0.cell? ⟨h2, 1, none⟩ = some (.slice aoa na ca) := hB2.cell 1
    have z30 : W0.cell? ⟨h3, 0, none⟩ = some (.int .i64 (q : Nat)) := hB3.cell 0
    have z31 : W0.cell? ⟨h3, 1, none⟩ = some (.slice aob nb cb) := hB3.cell 1
    have RQ := RP W0 hF0
    have hh2' := Lib.hid hh2
    have hh3' := Lib.hid hh3
    have hh4' := Lib.hid hh4
    have hW0' := Lib.hid hW0
    have hF0' := Lib.hid hF0
    have hB4' := Lib.hid hB4
    have hlo := Lib.hid (show w.heap.size ≤ h4 by omega)
    clear hh2 hh3 hh4 hW0 hF0 hB2 hB3 hB4 RP p0 q0 hs hna hnb
    go_enter Tryd.func37, Tryd.ntmps37
    go_upto_region 1 with fail
    rw [← hh2'.out, ← hh3'.out, ← hh4'.out, ← hW0'.out]
    go_wp2_with fail
    refine RQ.mono ?_
    rintro e w5 ⟨v, rfl, hD, hDn, hf5⟩
    have hD' := Lib.hid hD
    obtain ⟨ao, cap, rfl, _⟩ := hD
    obtain ⟨n, hn⟩ : ∃ n, (cellsL (kronM A B q) s).length = n := ⟨_, rfl⟩
    rw [hn] at hD' hDn ⊢
    have hB5 := hB4'.out.far' hf5 id
    have d0 : w5.cell? ⟨h4, 0, none⟩ = some (.int .i64 0) := hB5.cell 0
    have d1 : w5.cell? ⟨h4, 1, none⟩ = some (.slice none 0 0) := hB5.cell 1
    have f0 := hB5.free 0
    have f1 := hB5.free 1
    have hB5' := Lib.hid hB5
    have hDn' := Lib.hid hDn
    have hf5' := Lib.hid hf5
    clear RQ hn hDn hf5 hB5 z20 z21 z30 z31
    go_wp2_with fail
    (try simp only [Exit.inBlock, Exit.then])
    obtain ⟨w7, hw7⟩ : ∃ V, V = (w5.setCell ⟨h4, 0, none⟩ (.int .i64 (s : Nat))).setCell ⟨h4, 1, none⟩ (.slice ao n cap) := ⟨_, rfl⟩
    have hB7 : Bk w7 h4 28 #[.int .i64 (s : Nat), .slice ao n cap] := hw7 ▸ (hB5'.out.set 0 _).set 1 _
    have hf67 : Far (fun q => q = h4) w5 w7 := hw7 ▸ ((Far.refl (fun q => q = h4) w5).set ⟨h4, 0, none⟩ _ fun _ => rfl).set ⟨h4, 1, none⟩ _ fun _ => rfl
    have hf7 : Far (fun _ => False) w w7 := (hF0'.out.then hf5'.out).trans hf67 fun q hq e => by have := hlo.out; omega
    have c0 : w7.cell? ⟨h4, 0, none⟩ = some (.int .i64 (s : Nat)) := hB7.cell 0
    have c1 : w7.cell? ⟨h4, 1, none⟩ = some (.slice ao n cap) := hB7.cell 1
    have hdn := Lib.hid (hDn'.out)
    have hD7 : Dm w7 (.agg #[.int .i64 (s : Nat), .slice ao n cap]) s (kronM A B q) := by
      obtain ⟨ao', cap', e, hp, r⟩ := hD'.out
      refine ⟨ao', cap', e, hp.kept hf67 fun a ha hl e9 => ?_, r⟩
      cases e
      have h1 := hdn.out _ _ _ _ rfl a ha
      have h2 := hB4'.out.lt
      omega
    rw [← hw7]
    exact bodyPost_ret (v := .tuple #[.agg #[.int .i64 (s : Nat), .slice ao n cap], .int .i64 0]) (by simp [results, Tryd.f37, go_sem, c0, c1]) rfl ⟨_, rfl, hD7, fun s' ao' n' cap' e a ha => Nat.le_trans hF0'.out.size (hDn'.out s' ao' n' cap' e a ha), hf7⟩
  · rw [if_neg hE, if_neg hE]
    exact rKron_no ha hb hE
end
end Go.Proofs.YtkobbcmndneajaaDoor
