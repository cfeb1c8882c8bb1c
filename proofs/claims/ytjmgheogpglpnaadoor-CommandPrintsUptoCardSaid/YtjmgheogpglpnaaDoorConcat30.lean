/-
  The library's Concat of two lists of texts.
-/
import Derived.Test.YtjmgheogpglpnaaDoorGrowLay
import Derived.Test.YtjmgheogpglpnaaDoorSame30
namespace Go.Proofs.YtjmgheogpglpnaaDoor
open Go.RowKit
set_option linter.unusedVariables false
set_option linter.unusedSimpArgs false
/-- Texts, nil too, whoever made them. -/
def TxS (w : World) (V : Value) (l : List Tx) : Prop := Src w 1 V l.length (l.map st)
theorem TxS.move {w w' : World} {V : Value} {l : List Tx} (h : TxS w V l) (hf : Far (fun _ => False) w w') : TxS w' V l := Src.move h hf
theorem TxS.form {w : World} {V : Value} {l : List Tx} (h : TxS w V l) : ∃ ao c, V = .slice ao l.length c := Src.form h
theorem own_room {w : World} {base g : Nat} {e : TypeId} {cs : Array Value} {cap : Nat} (hg : Bk w g e cs) (hb : base ≤ g) (hc : cs.size = cap) (hm : cap ≤ maxLen) : w.ownsRow base e 1 (.slice (some ⟨g, 0, none⟩) 0 cap) 0 [] :=
  ⟨rfl, .inr ⟨g, cap, cs, rfl, hb, hg, Nat.zero_le _, hm, by rw [Nat.mul_one]; exact hc, by simp⟩⟩
section
set_option maxHeartbeats 4000000
set_option maxRecDepth 100000
theorem grow_any (n : Nat) (hn : n ≤ 1099511627776) (w : World) : Calls Tryd.prog 51 #[.slice none 0 0, .int .i64 (n : Int)] w fun e w' => ∃ v, e = .returned v ∧ w'.ownsRow w.heap.size 9 1 v 0 [] ∧ Far (fun _ => False) w w' := by
  by_cases h0 : n = 0
  · subst h0
    refine (Any8.slices_Grow_room Tryd.growS none 0 0 0 w (Nat.le_refl _) (by decide) (by decide) (Nat.le_refl _)).mono ?_
    rintro e w' ⟨rfl, rfl⟩
    exact ⟨_, rfl, World.ownsRow_nil _ _ _ _, Far.refl _ _⟩
  · obtain ⟨i, z, hi, hz, h1, h2, h3⟩ := info3 info_str
    refine (Any8.slices_Grow_grow Tryd.growS i z hi hz (by rw [h1]; decide) none 0 0 n [] w (Nat.le_refl _) (by omega) (by rw [h2]; omega) (by omega) (by simp) (fun _ => rfl) (fun a ha => by cases ha)).mono ?_
    rintro e w' ⟨rfl, rfl⟩
    have e25 : Tryd.growS_ren.t 25 = 9 := rfl
    rw [Nat.zero_add, Nat.sub_zero, e25]
    have hge := grownCap_ge w n 0 9
    have hle := grownCap_le_maxLen w n 0 9 (by unfold maxLen; omega)
    refine ⟨_, rfl, own_room (Bk.new (by simp)) (Nat.le_refl _) ?_ hle, (drew_far w).then ((Far.refl _ _).alloc _)⟩
    rw [Array.size_append, Array.size_append, size_zeroCells, size_zeroCells, h3]
    simp
    omega
theorem concat_any (gb : Nat) (V0 V1 : Value) (l0 l1 : List Tx) (w : World) (c0 : w.cell? ⟨gb, 0, none⟩ = some V0) (c1 : w.cell? ⟨gb, 1, none⟩ = some V1) (h0 : TxS w V0 l0) (h1 : TxS w V1 l1) (hn : l0.length + l1.length ≤ 1099511627776) :
    Calls Tryd.prog 37 #[.slice (some ⟨gb, 0, none⟩) 2 2] w fun e w' => ∃ v, e = .returned v ∧ w'.ownsRow w.heap.size 9 1 v (l0 ++ l1).length ((l0 ++ l1).map st) ∧ Far (fun _ => False) w w' := by
  obtain ⟨a0, k0, rfl⟩ := h0.form
  obtain ⟨a1, k1, rfl⟩ := h1.form
  have hgb := World.block_lt_of_cell? w _ c0
  obtain ⟨n0, hn0⟩ : ∃ n, n = l0.length := ⟨_, rfl⟩
  obtain ⟨n1, hn1⟩ : ∃ n, n = l1.length := ⟨_, rfl⟩
  have h0' := Lib.hid h0
  have h1' := Lib.hid h1
  rw [← hn0] at c0 hn
  rw [← hn1] at c1 hn
  have hn0' := Lib.hid hn0
  have hn1' := Lib.hid hn1
  have GR := Lib.hid (show ∀ W, Calls Tryd.prog 51 #[.slice none 0 0, .int .i64 ((n0 : Int) + (n1 : Int))] W fun e w' => ∃ v, e = .returned v ∧ w'.ownsRow W.heap.size 9 1 v 0 [] ∧ Far (fun _ => False) W w' from fun W => by have := grow_any (n0 + n1) hn W; rwa [Int.natCast_add] at this)
  clear h0 h1 hn0 hn1
  go_enter Tryd.func37, Tryd.ntmps37
  go_wp2_with fail
  go_loopw [3, 11] (fun sv iv wr => ∃ i : Nat, iv = .int .i64 i ∧ i ≤ 2 ∧ sv = .int .i64 ((if i = 0 then 0 else if i = 1 then n0 else n0 + n1 : Nat) : Int) ∧ wr = w) (fun _ iv _ => 2 - (intOf iv).toNat)
  case atStart => exact ⟨0, rfl, by omega, rfl, rfl⟩
  case round =>
    obtain ⟨i, rfl, hi, rfl, rfl⟩ := hrel
    have : i = 0 ∨ i = 1 ∨ i = 2 := by omega
    rcases this with rfl | rfl | rfl
    · have q : decide ((n0 : Int) < 0) = false := by rw [decide_eq_false_iff_not]; omega
      go_wp2_with fail
      exact ⟨⟨1, rfl, by omega, by simp, by first | rfl | trivial⟩, by simp [intOf]⟩
    · have q : decide (((n0 : Int) + (n1 : Int)) < 0) = false := by rw [decide_eq_false_iff_not]; omega
      go_wp2_with fail
      exact ⟨⟨2, rfl, by omega, by simp, by first | rfl | trivial⟩, by simp [intOf]⟩
    · obtain ⟨wo, hwo⟩ : ∃ W, W = wr := ⟨_, rfl⟩
      rw [← hwo] at c0 c1 hgb h0' h1' ⊢
      have hwo' := Lib.hid hwo
      clear hwo
      go_wp2_with (refine (GR.out _).mono ?_; rintro e w1 ⟨v1, rfl, ho1, hf1⟩; have ho1' := Lib.hid ho1; have hf1' := Lib.hid hf1; clear ho1 hf1)
      obtain ⟨pi, pz, pi1, pi2, pi3, pi4, pi5⟩ := info3 info_str
      have A7 : 0 < 1 := by decide
      go_loopw [6, 27] (fun sv iv wq => ∃ i : Nat, iv = .int .i64 i ∧ i ≤ 2 ∧ wq.ownsRow wo.heap.size 9 1 sv (if i = 0 then 0 else if i = 1 then n0 else n0 + n1) (if i = 0 then [] else if i = 1 then l0.map st else (l0 ++ l1).map st) ∧ Far (fun _ => False) wo wq) (fun _ iv _ => 2 - (intOf iv).toNat)
      case atStart => exact ⟨0, rfl, by omega, ho1'.out, hf1'.out⟩
      case round =>
        obtain ⟨i, rfl, hi2, ho, hf⟩ := hrel
        have d0 : wr.cell? ⟨gb, 0, none⟩ = some (.slice a0 n0 k0) := (hf.cell hgb).trans c0
        have d1 : wr.cell? ⟨gb, 1, none⟩ = some (.slice a1 n1 k1) := (hf.cell hgb).trans c1
        have hz1 : wo.heap.size ≤ wr.heap.size := hf.size
        have hgq : gb < wr.heap.size := by omega
        have this : i = 0 ∨ i = 1 ∨ i = 2 := by omega
        rcases this with rfl | rfl | rfl
        · have B1 := Lib.hid (show wr.ownsRow wo.heap.size 9 1 u6 0 [] from ho)
          have B2 := Lib.hid (show Src wr 1 (.slice a0 n0 k0) n0 (l0.map st) from by have := h0'.out.move hf; unfold TxS at this; rw [← hn0'.out] at this; exact this)
          have B3 := Lib.hid (st_one l0)
          have B4 : 0 + n0 ≤ maxLen := by unfold maxLen; omega
          have B5 : (0 + n0) * 16 ≤ 140737488355328 := by omega
          have hf' := Lib.hid hf
          clear ho hf
          go_wp2_with (at_builtin; refine wpList_app rfl _ _ 24 rfl wo.heap.size 9 pi pz 1 16 Tryd.underlying24 pi1 pi2 pi3 pi4 pi5 A7 u6 0 _ rfl B1.out (.slice a0 n0 k0) n0 _ rfl B2.out B3.out B4 B5 hz1 ?_; intro v2 w5 ho5 hg5; have ho5' := Lib.hid ho5; have hg5' := Lib.hid hg5; clear ho5 hg5)
          refine ⟨⟨1, rfl, by omega, ?_, (hf'.out.mono (G := fun k => wo.heap.size ≤ k) fun _ _ h => h.elim).trans ((grown_far hg5'.out).mono (G := fun k => wo.heap.size ≤ k) fun k _ e => (B1.out.lt k e).1) (fun _ _ h => h) |>.mono fun k hk h => by omega⟩, by simp [intOf]⟩
          have := ho5'.out
          rw [Nat.zero_add, List.nil_append] at this
          exact this
        · have B1 := Lib.hid (show wr.ownsRow wo.heap.size 9 1 u6 n0 (l0.map st) from ho)
          have B2 := Lib.hid (show Src wr 1 (.slice a1 n1 k1) n1 (l1.map st) from by have := h1'.out.move hf; unfold TxS at this; rw [← hn1'.out] at this; exact this)
          have B3 := Lib.hid (st_one l1)
          have B4 : n0 + n1 ≤ maxLen := by unfold maxLen; omega
          have B5 : (n0 + n1) * 16 ≤ 140737488355328 := by omega
          have hf' := Lib.hid hf
          clear ho hf
          go_wp2_with (at_builtin; refine wpList_app rfl _ _ 24 rfl wo.heap.size 9 pi pz 1 16 Tryd.underlying24 pi1 pi2 pi3 pi4 pi5 A7 u6 n0 _ rfl B1.out (.slice a1 n1 k1) n1 _ rfl B2.out B3.out B4 B5 hz1 ?_; intro v2 w5 ho5 hg5; have ho5' := Lib.hid ho5; have hg5' := Lib.hid hg5; clear ho5 hg5)
          refine ⟨⟨2, rfl, by omega, ?_, (hf'.out.mono (G := fun k => wo.heap.size ≤ k) fun _ _ h => h.elim).trans ((grown_far hg5'.out).mono (G := fun k => wo.heap.size ≤ k) fun k _ e => (B1.out.lt k e).1) (fun _ _ h => h) |>.mono fun k hk h => by omega⟩, by simp [intOf]⟩
          have := ho5'.out
          rw [← List.map_append] at this
          exact this
        · have ho' := Lib.hid (show wr.ownsRow wo.heap.size 9 1 u6 (n0 + n1) ((l0 ++ l1).map st) from ho)
          have hf' := Lib.hid hf
          clear ho hf
          go_wp2_with fail
          go_ret
          have e := hwo'.out
          subst e
          exact ⟨_, rfl, by rw [List.length_append, ← hn0'.out, ← hn1'.out]; exact ho'.out, hf'.out⟩
end
end Go.Proofs.YtjmgheogpglpnaaDoor
