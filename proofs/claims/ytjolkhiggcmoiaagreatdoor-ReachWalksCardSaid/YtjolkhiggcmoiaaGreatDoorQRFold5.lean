/-
  A matrix of any cells: what the laws of layer 05 begin with.
-/
import Derived.Test.YtjolkhiggcmoiaaGreatDoorQRClosM
namespace Go.Proofs.YtjolkhiggcmoiaaGreatDoor
open Go.RowKit Go.Shelf
set_option linter.unusedVariables false
set_option linter.unusedSimpArgs false
theorem i64_and127 (n : Int) : bits .and .i64 n 127 = n % 128 := by
  have h1 : (BitVec.ofInt 64 127).toNat = 2 ^ 7 - 1 := by decide
  have key : (BitVec.ofInt 64 n &&& BitVec.ofInt 64 127).toNat = (n % ((2 ^ 64 : Nat) : Int)).toNat % 2 ^ 7 := by
    rw [BitVec.toNat_and, BitVec.toNat_ofInt, h1, Nat.and_two_pow_sub_one_eq_mod]
  show IntKind.i64.wrap ((BitVec.ofInt 64 n &&& BitVec.ofInt 64 127).toNat : Nat) = _
  rw [key, IntKind.wrap_i64]
  omega
def red05 (s : Nat) (x : Int) : Nat := (x % 128).toNat % s
theorem red05_lt {s : Nat} (x : Int) (h : 0 < s) : red05 s x < s := Nat.mod_lt _ h
theorem red05_tmod (s : Nat) (x : Int) : (x % 128).tmod (s : Int) = (red05 s x : Int) := by
  rw [Int.tmod_eq_emod_of_nonneg (by omega)]
  unfold red05
  rw [Int.natCast_emod, Int.toNat_of_nonneg (by omega)]
def foldR05 (s : Nat) (R C : Nat → Int) (n : Nat) : Nat → Nat → Bool := putL (fun k => red05 s (R k)) (fun k => red05 s (C k)) (min n 300)
section
set_option maxHeartbeats 8000000
set_option maxRecDepth 100000
theorem fold05_any (x : Int) (s : Nat) (hx : (x % 128).toNat + 1 = s) (ao : Option Addr) (n cap : Nat) (R C : Nat → Int) (hn : n ≤ 9223372036854775807) (w : World) (hC : Cls w ao n R C) :
    Calls Tryz.prog 20 #[.int .i64 x, .slice ao n cap] w fun e w' => ∃ B', e = .returned (.pointer (some ⟨B', 0, none⟩)) ∧
      ∃ F', Mx w' B' F' s (foldR05 s R C n) ∧ (∀ k, F' k → w.heap.size ≤ k) ∧ Far (fun _ => False) w w' := by
  have hs1 : 1 ≤ s := by omega
  have hs2 : s ≤ 1024 := by omega
  have hxa := i64_and127 x
  have hxs : x % 128 + 1 = (s : Int) := by omega
  have hx0 : 0 ≤ x % 128 := by omega
  have hx1 : x % 128 < 128 := by omega
  have hC' := Lib.hid hC
  have hx' := Lib.hid hx
  clear hC hx
  go_enter Tryz.func20, Tryz.ntmps20
  go_wp2_with fail
  refine (qnew_yes s hs1 hs2 w).mono ?_
  rintro e w1 ⟨rfl, l, hl, hw, hB, hf1⟩
  have hM1 := Lib.hid (Mx.new (w := w) hs1 hs2 hl hw hB)
  have hf1' := Lib.hid hf1
  have hw1 := hB.lt
  obtain ⟨Bm, hBm⟩ : ∃ b, b = w.heap.size := ⟨_, rfl⟩
  rw [← hBm] at hM1 ⊢
  have hBm' := Lib.hid hBm
  clear hB hf1 hBm
  go_wp2_with fail
  go_loopw [8] (fun kv wr => ∃ k : Nat, k ≤ n ∧ k ≤ 300 ∧ kv = .int .i64 (k : Nat) ∧ (∃ F', Mx wr Bm F' s (putL (fun k => red05 s (R k)) (fun k => red05 s (C k)) k) ∧ ∀ q, F' q → w.heap.size ≤ q) ∧ Far (fun _ => False) w wr) (fun kv _ => n - (intOf kv).toNat)
  case atStart => exact ⟨0, Nat.zero_le _, Nat.zero_le _, rfl, ⟨_, hM1.out, fun q hq => by rw [Qf_none hq, hBm'.out]; exact Nat.le_refl _⟩, hf1'.out⟩
  case round =>
    clear hM1 hf1'
    obtain ⟨k, hk, hk4, rfl, ⟨F1, hX, hF1⟩, hf⟩ := hrel
    by_cases hlt : k < n
    · have dk : (k : Int) < (n : Int) := by omega
      by_cases h300 : k < 300
      · have dk4 : (k : Int) < 300 := by omega
        obtain ⟨g, off, rfl, hg, hc⟩ := (hC'.out.move hf) (by omega)
        obtain ⟨c0, c1⟩ := hc k hlt
        obtain ⟨i, hi⟩ : ∃ i, red05 s (R k) = i := ⟨_, rfl⟩
        obtain ⟨j, hj⟩ : ∃ j, red05 s (C k) = j := ⟨_, rfl⟩
        have hil : i < s := hi ▸ red05_lt _ hs1
        have hjl : j < s := hj ▸ red05_lt _ hs1
        have e1 := i64_and127 (R k)
        have e2 := i64_and127 (C k)
        have e3 := red05_tmod s (R k)
        have e4 := red05_tmod s (C k)
        rw [hi] at e3
        rw [hj] at e4
        have hs0 : ((s : Int) == 0) = false := by simp; omega
        have hs00 : ¬ ((s : Int) = 0) := by omega
        have hstep : putL (fun k => red05 s (R k)) (fun k => red05 s (C k)) (k + 1) = putM (putL (fun k => red05 s (R k)) (fun k => red05 s (C k)) k) i j := by rw [← hi, ← hj]; rfl
        obtain ⟨Mk, hMk⟩ : ∃ Mk, putL (fun k => red05 s (R k)) (fun k => red05 s (C k)) k = Mk := ⟨_, rfl⟩
        rw [hMk] at hX hstep
        have S1 : ∀ W, Far (fun _ => False) wr W → _ := fun W hfW => qset_yes (hX.still hfW) i j hil hjl
        have S1' := Lib.hid S1
        have hF1' := Lib.hid hF1
        have hf' := Lib.hid hf
        have hstep' := Lib.hid hstep
        have hlt' := Lib.hid hlt
        clear hX hF1 hf hi hj hc hstep hMk S1
        obtain ⟨wo, hwo⟩ : ∃ wo, wo = wr := ⟨_, rfl⟩
        rw [← hwo] at S1' hf' c0 c1 hg ⊢
        clear hwo
        go_upto_region 8 with fail
        go_region_with ((with_reducible refine (S1'.out _ ((Far.refl (fun _ => False) wo).drew)).mono ?_); rintro e w3 ⟨rfl, F2, hX3, hm3⟩; have hX3' := Lib.hid (hstep'.out ▸ hX3); have hm3' := Lib.hid hm3; clear hX3 hm3)
        all_goals (go_wp2_with fail; exact ⟨⟨k + 1, by omega, by omega, by go_num, ⟨F2, hX3'.out, fun q hq => (hm3'.out.more q hq).elim (hF1'.out q) fun h => by have := hf'.out.size; have := ((Far.refl (fun _ => False) wo).drew).size; omega⟩, (hf'.out.then ((Far.refl (fun _ => False) wo).drew)).trans hm3'.out.far fun q hq e => by have := hF1'.out q e; omega⟩, by simp [intOf]; have := hlt'.out; omega⟩)
      · have dk4 : ¬ (k : Int) < 300 := by omega
        have e : k = 300 := by omega
        subst e
        have hm : min n 300 = 300 := by omega
        have hX' := Lib.hid (show Mx wr Bm F1 s (foldR05 s R C n) by unfold foldR05; rw [hm]; exact hX)
        have hF1' := Lib.hid hF1
        have hf' := Lib.hid hf
        clear hX hF1 hf
        go_wp2_with fail
        go_ret
        exact ⟨_, rfl, F1, hX'.out, hF1'.out, hf'.out⟩
    · have e : k = n := by omega
      subst e
      have hm : min k 300 = k := by omega
      have hX' := Lib.hid (show Mx wr Bm F1 s (foldR05 s R C k) by unfold foldR05; rw [hm]; exact hX)
      have hF1' := Lib.hid hF1
      have hf' := Lib.hid hf
      clear hX hF1 hf
      go_wp2_with fail
      go_ret
      exact ⟨_, rfl, F1, hX'.out, hF1'.out, hf'.out⟩
end
end Go.Proofs.YtjolkhiggcmoiaaGreatDoor
