/-
  The laws' own helpers of layer 2: size, put; Of.
-/
import Derived.Test.YtoaeeojnelmlnaaDoorQSame
import Derived.StillTailTactics
namespace Go.Proofs.YtoaeeojnelmlnaaDoor
open Go.RowKit
set_option linter.unusedVariables false
set_option linter.unusedSimpArgs false
/-- A list of cells that was handed in. -/
def Cls (w : World) (ao : Option Addr) (n : Nat) (R C : Nat → Int) : Prop := 0 < n → ∃ g off, ao = some ⟨g, off, none⟩ ∧ g < w.heap.size ∧ ∀ k, k < n → w.cell? ⟨g, off + k * 2, none⟩ = some (.int .i64 (R k)) ∧ w.cell? ⟨g, off + k * 2 + 1, none⟩ = some (.int .i64 (C k))
theorem Cls.kept {w w' : World} {F : Nat → Prop} {ao : Option Addr} {n : Nat} {R C : Nat → Int} (h : Cls w ao n R C) (hf : Far F w w') (hF : ∀ a, ao = some a → ¬ F a.block) : Cls w' ao n R C := fun hn => by
  obtain ⟨g, off, rfl, hg, hc⟩ := h hn
  have hb := hf.block g hg (hF _ rfl)
  exact ⟨g, off, rfl, Nat.lt_of_lt_of_le hg hf.size, fun k hk => ⟨(cell_eq hb).trans (hc k hk).1, (cell_eq hb).trans (hc k hk).2⟩⟩
theorem Cls.move {w w' : World} {ao : Option Addr} {n : Nat} {R C : Nat → Int} (h : Cls w ao n R C) (hf : Far (fun _ => False) w w') : Cls w' ao n R C := h.kept hf fun _ _ h => h
/-- The cells of the first k of a list. -/
def putL (r c : Nat → Nat) : Nat → Nat → Nat → Bool
  | 0 => fun _ _ => false
  | k + 1 => putM (putL r c k) (r k) (c k)
theorem putL_iff {r c : Nat → Nat} {a b : Nat} : ∀ {k : Nat}, putL r c k a b = true ↔ ∃ q, q < k ∧ a = r q ∧ b = c q
  | 0 => by simp [putL]
  | k + 1 => by
    simp only [putL, putM, Bool.or_eq_true, Bool.and_eq_true, decide_eq_true_eq, putL_iff (k := k)]
    constructor
    · rintro (⟨q, hq, h⟩ | ⟨h1, h2⟩)
      · exact ⟨q, by omega, h⟩
      · exact ⟨k, by omega, h1, h2⟩
    · rintro ⟨q, hq, h1, h2⟩
      by_cases e : q = k
      · subst e; exact .inr ⟨h1, h2⟩
      · exact .inl ⟨q, by omega, h1, h2⟩
/-- A number taken by 1024, then by a side. -/
def red (s : Nat) (x : Int) : Nat := (x % 1024).toNat % s
theorem red_lt {s : Nat} (x : Int) (h : 0 < s) : red s x < s := Nat.mod_lt _ h
theorem i64_and1023 (n : Int) : bits .and .i64 n 1023 = n % 1024 := by
  have h1 : (BitVec.ofInt 64 1023).toNat = 2 ^ 10 - 1 := by decide
  have key : (BitVec.ofInt 64 n &&& BitVec.ofInt 64 1023).toNat = (n % ((2 ^ 64 : Nat) : Int)).toNat % 2 ^ 10 := by
    rw [BitVec.toNat_and, BitVec.toNat_ofInt, h1, Nat.and_two_pow_sub_one_eq_mod]
  show IntKind.i64.wrap ((BitVec.ofInt 64 n &&& BitVec.ofInt 64 1023).toNat : Nat) = _
  rw [key, IntKind.wrap_i64]
  omega
theorem red_tmod (s : Nat) (x : Int) (hs : s ≤ 1024) : (x % 1024).tmod (s : Int) = (red s x : Int) := by
  rw [Int.tmod_eq_emod_of_nonneg (by omega)]
  unfold red
  obtain ⟨m, hm⟩ : ∃ m : Nat, x % 1024 = (m : Int) := ⟨(x % 1024).toNat, by omega⟩
  rw [hm, Int.toNat_natCast]
  simp
section
set_option maxHeartbeats 4000000
set_option maxRecDepth 100000
theorem size02_any (x : Int) (w : World) : Calls Tryd.prog 28 #[.int .i64 x] w fun e w' => e = .returned (.int .i64 (((x % 1024).toNat + 1 : Nat) : Int)) ∧ w = w' := by
  have h := i64_and1023 x
  have h1 : ((((x % 1024).toNat + 1 : Nat) : Int)) = x % 1024 + 1 := by omega
  rw [h1]
  have h2 : 0 ≤ x % 1024 := by omega
  have h3 : x % 1024 < 1024 := by omega
  go_enter Tryd.func28, Tryd.ntmps28
  go_wp2
  go_ret
  exact ⟨rfl, rfl⟩
theorem Mx.get {w : World} {B side : Nat} {F : Nat → Prop} {M : Nat → Nat → Bool} (h : Mx w B F side M) (i j : Nat) (hi : i < side) (hj : j < side) :
    Calls Tryd.prog 36 #[.pointer (some ⟨B, 0, none⟩), .int .i64 i, .int .i64 j] w fun e w' => e = .returned (.tuple #[.bool (M i j), .int .i64 0]) ∧ Far (fun _ => False) w w' := by
  obtain ⟨_, _, _, _, _, _, _, hq, _, _⟩ := h
  exact qget_yes hq i j hi hj
theorem putM_at (M : Nat → Nat → Bool) (i j : Nat) : putM M i j i j = true := by simp [putM]
theorem Mx.new {w w' : World} {k side l : Nat} (h1 : 1 ≤ side) (h2 : side ≤ 1024) (hl : l ≤ 4) (hw : side ≤ 64 * 2 ^ l) (h : Bk w' k 111 #[.int .i64 (side : Nat), .int .i64 (l : Nat), .int .i64 0, .slice none 0 0, .slice none 0 0]) : Mx w' k (Qf k (.slice none 0 0) (.slice none 0 0)) side (fun _ _ => false) :=
  ⟨l, 0, _, _, _, _, _, Qd.new h1 h2 hl hw h, fun p hp => (by cases hp), rfl⟩
theorem Qf_none {k q : Nat} (h : Qf k (.slice none 0 0) (.slice none 0 0) q) : q = k := by
  rcases h with e | e | e
  · exact e
  · cases e
  · cases e
theorem put02_any (s : Nat) (hs1 : 1 ≤ s) (hs2 : s ≤ 1024) (ao : Option Addr) (n cap : Nat) (R C : Nat → Int) (hn : n ≤ 9223372036854775807) (w : World) (hC : Cls w ao n R C) :
    Calls Tryd.prog 29 #[.int .i64 s, .slice ao n cap] w fun e w' => ∃ B', e = .returned (.tuple #[.pointer (some ⟨B', 0, none⟩), .int .i64 (numM (putL (fun k => red s (R k)) (fun k => red s (C k)) n) : Nat)]) ∧
      ∃ F', Mx w' B' F' s (putL (fun k => red s (R k)) (fun k => red s (C k)) n) ∧ (∀ k, F' k → w.heap.size ≤ k) ∧ Far (fun _ => False) w w' := by
  have hC' := Lib.hid hC
  clear hC
  go_enter Tryd.func29, Tryd.ntmps29
  go_wp2_with fail
  refine (qnew_yes s hs1 hs2 w).mono ?_
  rintro e w1 ⟨rfl, l, hl, hw, hB, hf1⟩
  have hM1 := Lib.hid (Mx.new (w := w) hs1 hs2 hl hw hB)
  have hf1' := Lib.hid hf1
  have hw1 := hB.lt
  clear hB hf1
  go_wp2_with fail
  go_loopw [8, 9] (fun cv kv wr => ∃ k : Nat, k ≤ n ∧ kv = .int .i64 (k : Nat) ∧ cv = .int .i64 (numM (putL (fun k => red s (R k)) (fun k => red s (C k)) k) : Nat) ∧ (∃ F', Mx wr w.heap.size F' s (putL (fun k => red s (R k)) (fun k => red s (C k)) k) ∧ (∀ q, F' q → w.heap.size ≤ q)) ∧ Far (fun _ => False) w wr) (fun _ kv _ => n - (intOf kv).toNat)
  case atStart => exact ⟨0, Nat.zero_le _, rfl, by simp [putL, numM_zero], ⟨_, hM1.out, fun q hq => by rw [Qf_none hq]; exact Nat.le_refl _⟩, hf1'.out⟩
  case round =>
    clear hM1 hf1'
    obtain ⟨k, hk, rfl, rfl, ⟨F1, hX, hF1⟩, hf⟩ := hrel
    have hle := numM_le (putL (fun k => red s (R k)) (fun k => red s (C k)) k)
    by_cases hlt : k < n
    · obtain ⟨g, off, rfl, hg, hc⟩ := (hC'.out.move hf) (by omega)
      obtain ⟨c0, c1⟩ := hc k hlt
      have dk : (k : Int) < (n : Int) := by omega
      have dk2 : (k : Int) + 1 ≤ 9223372036854775807 := by omega
      obtain ⟨i, hi⟩ : ∃ i, red s (R k) = i := ⟨_, rfl⟩
      obtain ⟨j, hj⟩ : ∃ j, red s (C k) = j := ⟨_, rfl⟩
      have hil : i < s := hi ▸ red_lt _ hs1
      have hjl : j < s := hj ▸ red_lt _ hs1
      have e1 := i64_and1023 (R k)
      have e2 := i64_and1023 (C k)
      have e3 := red_tmod s (R k) hs2
      have e4 := red_tmod s (C k) hs2
      rw [hi] at e3
      rw [hj] at e4
      have hs0 : ((s : Int) == 0) = false := by simp; omega
      have hs00 : ¬ ((s : Int) = 0) := by omega
      have hX' := Lib.hid hX
      have hf' := Lib.hid hf
      have hF1' := Lib.hid hF1
      have hi' := Lib.hid hi
      have hj' := Lib.hid hj
      have hlt' := Lib.hid hlt
      clear hX hf hF1 hi hj hc
      obtain ⟨wo, hwo⟩ : ∃ wo, wo = wr := ⟨_, rfl⟩
      rw [← hwo] at hX' hf' c0 c1 hg ⊢
      clear hwo
      go_wp2_with fail
      go_quiet (fail)
      clear c0 c1
      obtain ⟨wd, hwd⟩ : ∃ wd, wd = wo.drewN nq := ⟨_, rfl⟩
      have hfd : Far (fun _ => False) wo wd := hwd ▸ (Far.refl _ wo).drewN nq
      rw [← hwd]
      clear hwd
      have hXd := hX'.out.still hfd
      have G1 := hXd.get i j hil hjl
      have hfd' := Lib.hid hfd
      have hXd' := Lib.hid hXd
      clear hfd hXd hX'
      obtain ⟨Mk, hMk⟩ : ∃ Mk, putL (fun k => red s (R k)) (fun k => red s (C k)) k = Mk := ⟨_, rfl⟩
      have hMk1 : putL (fun k => red s (R k)) (fun k => red s (C k)) (k + 1) = putM Mk i j := by rw [← hMk, ← hi'.out, ← hj'.out]; rfl
      rw [hMk] at G1 hXd' hle ⊢
      have hMk1' := Lib.hid hMk1
      have hMkh := Lib.hid hMk
      clear hMk1 hMk
      go_wp2_with fail
      refine G1.mono ?_
      rintro e w2 ⟨rfl, hf2⟩
      have S1 := qset_yes (hXd'.out.still hf2) i j hil hjl
      have hf2' := Lib.hid hf2
      clear hf2 G1
      go_wp2_with fail
      refine S1.mono ?_
      rintro e w3 ⟨rfl, F2, hX3, hm3⟩
      have G2 := hX3.get i j hil hjl
      rw [putM_at] at G2
      have hX3' := Lib.hid hX3
      have hm3' := Lib.hid hm3
      clear S1 hX3 hm3
      go_wp2_with fail
      refine G2.mono ?_
      rintro e w4 ⟨rfl, hf4⟩
      have hfin : Far (fun _ => False) w w4 := ((((hf'.out.then hfd'.out).then hf2'.out).mono (G := F1) fun _ _ h => h.elim).trans hm3'.out.far fun q _ h => h).trans (hf4.mono (G := F1) fun _ _ h => h.elim) (fun q _ h => h) |>.trans (G := F1) (Far.refl _ w4) (fun q _ h => h) |> fun h => ⟨h.os, h.tape, h.output, h.size, fun q hq _ => h.block q hq fun hF => by have := hF1'.out q hF; omega⟩
      have hfin' := Lib.hid hfin
      have hX4 := Lib.hid (hX3'.out.still hf4)
      have hF2 : ∀ q, F2 q → w.heap.size ≤ q := fun q hq => (hm3'.out.more q hq).elim (hF1'.out q) fun h => by
        have h1 := ((hf'.out.then hfd'.out).then hf2'.out).size
        omega
      have hF2' := Lib.hid hF2
      clear hfin G2 hf4 hF2
      have hb1 : i < 1024 := by omega
      have hb2 : j < 1024 := by omega
      cases hm : Mk i j
      · have hnum := numM_put (M := Mk) hb1 hb2 hm
        have hnum' := Lib.hid hnum
        clear hnum
        go_wp2_with fail
        go_roundw
        case rel => exact ⟨k + 1, by omega, by simp, by rw [hMk1'.out, hnum'.out]; simp, ⟨F2, by rw [hMk1'.out]; exact hX4.out, hF2'.out⟩, hfin'.out⟩
        case measure => simp only [intOf]; have := hlt'.out; omega
      · have hnum : numM (putM Mk i j) = numM Mk := numM_congr (putM_same hm)
        have hnum' := Lib.hid hnum
        clear hnum
        go_wp2_with fail
        go_roundw
        case rel => exact ⟨k + 1, by omega, by simp, by rw [hMk1'.out, hnum'.out], ⟨F2, by rw [hMk1'.out]; exact hX4.out, hF2'.out⟩, hfin'.out⟩
        case measure => simp only [intOf]; have := hlt'.out; omega
    · have e : k = n := by omega
      subst e
      go_wp2_with fail
      go_ret2
      exact ⟨_, rfl, F1, hX, hF1, hf⟩
end
end Go.Proofs.YtoaeeojnelmlnaaDoor
