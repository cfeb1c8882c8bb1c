/-
  The document's table: which pieces of a word each nonterminal derives.
-/
import Derived.Test.YteojbnkjphghkaaDoorMakes15
import Derived.Test.YteojbnkjphghkaaDoorRows13
namespace Go.Proofs.YteojbnkjphghkaaDoor
open Go.RowKit
set_option linter.unusedVariables false
set_option linter.unusedSimpArgs false
def atN (n a i j : Nat) : Nat := (a * n + i) * n + j
theorem atN_lt {n S a i j : Nat} (ha : a < S) (hi : i < n) (hj : j < n) : atN n a i j < S * n * n := by
  unfold atN
  have h1 : a * n + i < S * n := by
    have : (a + 1) * n ≤ S * n := Nat.mul_le_mul_right _ ha
    rw [Nat.add_mul, Nat.one_mul] at this
    omega
  have h2 : (a * n + i + 1) * n ≤ S * n * n := Nat.mul_le_mul_right _ h1
  rw [Nat.add_mul, Nat.one_mul] at h2
  omega
theorem atN_inj {n a i j a' i' j' : Nat} (hi : i < n) (hj : j < n) (hi' : i' < n) (hj' : j' < n) (h : atN n a i j = atN n a' i' j') : a = a' ∧ i = i' ∧ j = j' := by
  unfold atN at h
  have hn : 0 < n := by omega
  have e1 : ((a * n + i) * n + j) % n = j := by rw [Nat.mul_comm _ n, Nat.mul_add_mod, Nat.mod_eq_of_lt hj]
  have e2 : ((a' * n + i') * n + j') % n = j' := by rw [Nat.mul_comm _ n, Nat.mul_add_mod, Nat.mod_eq_of_lt hj']
  have hjj : j = j' := by rw [← e1, ← e2, h]
  subst hjj
  have h3 : (a * n + i) * n = (a' * n + i') * n := by omega
  have h4 := Nat.eq_of_mul_eq_mul_right hn h3
  have e3 : (a * n + i) % n = i := by rw [Nat.mul_comm a n, Nat.mul_add_mod, Nat.mod_eq_of_lt hi]
  have e4 : (a' * n + i') % n = i' := by rw [Nat.mul_comm a' n, Nat.mul_add_mod, Nat.mod_eq_of_lt hi']
  have hii : i = i' := by rw [← e3, ← e4, h4]
  subst hii
  exact ⟨Nat.eq_of_mul_eq_mul_right hn (by omega), rfl, rfl⟩
/-- Does a piece come of a body, by what is known? -/
def ComeP (f : Nat → Bool) (W : List Int) (l : List Sy) (i j : Nat) : Prop := match l with
  | [] => i = j
  | [x] => j = i + 1 ∧ W[i]? = some x.2
  | x :: y :: _ => ∃ k, i ≤ k ∧ k ≤ j ∧ f (atN (W.length + 1) x.2.toNat i k) = true ∧ f (atN (W.length + 1) y.2.toNat k j) = true
section
set_option maxHeartbeats 4000000
set_option maxRecDepth 100000
theorem at_any (n a i j : Nat) (w : World) (hn : n ≤ 65) (ha : a ≤ 1024) (hi : i ≤ 65) (hj : j ≤ 65) :
    Calls Tryd.prog 32 #[.int .i64 (a : Int), .int .i64 (i : Int), .int .i64 (j : Int), .int .i64 (n : Int)] w fun e w' => e = .returned (.int .i64 (atN n a i j : Int)) ∧ w = w' := by
  obtain ⟨p, hp⟩ : ∃ p, p = a * n := ⟨_, rfl⟩
  obtain ⟨q, hq⟩ : ∃ q, q = (p + i) * n := ⟨_, rfl⟩
  have hp2 : p ≤ 66560 := by rw [hp]; exact Nat.mul_le_mul ha hn
  have hq2 : q ≤ 66625 * 65 := by rw [hq]; exact Nat.mul_le_mul (by omega) hn
  have e1 : (a : Int) * (n : Int) = (p : Int) := by rw [hp]; simp
  have e2 : ((p : Int) + (i : Int)) * (n : Int) = (q : Int) := by rw [hq]; simp
  have hr := Lib.hid (show (q : Int) + (j : Int) = (atN n a i j : Int) by unfold atN; rw [← hp, ← hq]; simp)
  clear hp hq
  go_enter Tryd.func32, Tryd.ntmps32
  go_wp2_with fail
  go_ret
  exact ⟨by rw [← hr.out]; rfl, rfl⟩
theorem come_any (S g : Nat) (f : Nat → Bool) (bv wv : Value) (l : List Sy) (W : List Int) (i j N : Nat) (w : World) (hb : Body w bv l) (hw : WdM w wv W) (hk : BRow w g N f) (hN : N = S * (W.length + 1) * (W.length + 1)) (hl : l.length ≤ 2) (hS : S ≤ 1024) (hsy : l.length = 2 → ∀ x ∈ l, 0 ≤ x.2 ∧ x.2 < S) (hij : i ≤ j) (hj : j ≤ W.length) (hn : W.length ≤ 64) :
    Calls Tryd.prog 49 #[bv, wv, .slice (some ⟨g, 0, none⟩) N N, .int .i64 (i : Int), .int .i64 (j : Int)] w fun e w' => (∃ b : Bool, e = .returned (.bool b) ∧ (b = true ↔ ComeP f W l i j)) ∧ Far (fun _ => False) w w' := by
  obtain ⟨bo, bc, rfl⟩ := Src.form hb
  obtain ⟨wo, wc, rfl⟩ := Src.form hw
  match l, hl, hb, hsy with
  | [], _, hb, _ =>
    by_cases he : i = j
    · have e1 : ((i : Int) == (j : Int)) = true := by simp [he]
      have hr := Lib.hid (show ComeP f W [] i j from he)
      clear hb hw hk
      go_enter Tryd.func49, Tryd.ntmps49
      go_wp2_with fail
      go_ret
      exact ⟨⟨true, rfl, fun _ => hr.out, fun _ => rfl⟩, Far.refl _ _⟩
    · have e1 : ((i : Int) == (j : Int)) = false := by rw [beq_eq_false_iff_ne]; omega
      have hr := Lib.hid (show ¬ ComeP f W [] i j from he)
      clear hb hw hk
      go_enter Tryd.func49, Tryd.ntmps49
      go_wp2_with fail
      go_ret
      exact ⟨⟨false, rfl, (fun h => by cases h), fun h => absurd h hr.out⟩, Far.refl _ _⟩
  | [x], _, hb, _ =>
    obtain ⟨bb, boff, c, he, hbl, b0, b1⟩ := Body.sym hb (k := 0) (s := x) rfl
    simp only [Value.slice.injEq] at he
    obtain ⟨rfl, _, rfl⟩ := he
    simp only [Nat.zero_mul, Nat.add_zero] at b0 b1
    by_cases hji : j = i + 1
    · have hi2 : i < W.length := by omega
      have e1 : ((j : Int) == (i : Int) + 1) = true := by simp; omega
      obtain ⟨y, hy⟩ : ∃ y, W[i]? = some y := ⟨W[i], List.getElem?_eq_getElem hi2⟩
      obtain ⟨ww, woff, c, he, hwl, w0⟩ := hw.at hy
      simp only [Value.slice.injEq] at he
      obtain ⟨rfl, _, rfl⟩ := he
      have hiI : (i : Int) < (W.length : Int) := by omega
      have hr := Lib.hid (show (y == x.2) = true ↔ ComeP f W [x] i j by
        rw [beq_iff_eq]
        exact ⟨fun h => ⟨hji, by rw [hy, h]⟩, fun h => by have := h.2; rw [hy] at this; exact Option.some.inj this⟩)
      clear hb hw hy hk
      simp only [List.length_cons, List.length_nil]
      go_enter Tryd.func49, Tryd.ntmps49
      go_upto_region 5 with fail
      go_region
      all_goals
        go_wp2_with fail
        go_ret
        exact ⟨⟨_, rfl, hr.out⟩, drew_far w⟩
    · have e1 : ((j : Int) == (i : Int) + 1) = false := by rw [beq_eq_false_iff_ne]; omega
      have hr := Lib.hid (show ¬ ComeP f W [x] i j from fun h => hji h.1)
      clear hb hw hk
      simp only [List.length_cons, List.length_nil]
      go_enter Tryd.func49, Tryd.ntmps49
      go_upto_region 5 with fail
      go_region
      all_goals
        go_wp2_with fail
        go_ret
        exact ⟨⟨false, rfl, (fun h => by cases h), fun h => absurd h hr.out⟩, drew_far w⟩
  | [(xb, x), (yb, y)], _, hb, hsy =>
    obtain ⟨hx0, hx1⟩ := hsy rfl (xb, x) (by simp)
    obtain ⟨hy0, hy1⟩ := hsy rfl (yb, y) (by simp)
    simp only at hx0 hx1 hy0 hy1
    obtain ⟨xa, rfl⟩ : ∃ n : Nat, x = (n : Int) := ⟨x.toNat, by omega⟩
    obtain ⟨ya, rfl⟩ : ∃ n : Nat, y = (n : Int) := ⟨y.toNat, by omega⟩
    obtain ⟨bb, boff, c, he, hbl, b0, b1⟩ := Body.sym hb (k := 0) (s := (xb, (xa : Int))) rfl
    simp only [Value.slice.injEq] at he
    obtain ⟨rfl, _, rfl⟩ := he
    obtain ⟨bb', boff', c', he, hbl', d0, d1⟩ := Body.sym hb (k := 1) (s := (yb, (ya : Int))) rfl
    simp only [Value.slice.injEq, Option.some.injEq, Addr.mk.injEq] at he
    obtain ⟨⟨rfl, rfl, _⟩, _, rfl⟩ := he
    simp only [Nat.zero_mul, Nat.add_zero, Nat.one_mul] at b0 b1 d0 d1
    obtain ⟨n, hn0⟩ : ∃ n, n = W.length + 1 := ⟨_, rfl⟩
    have hnb : n ≤ 65 := by omega
    have hjn : j < n := by omega
    have hj64 : j ≤ 64 := by omega
    have hi64 : i ≤ 64 := by omega
    have hwn : IntKind.i64.wrap (n : Int) = (n : Int) := IntWalk.i64_in _ (by omega)
    have hn0' := Lib.hid hn0
    have hnW : (W.length : Int) + 1 = (n : Int) := by omega
    have hk' := Lib.hid hk
    have hN' := Lib.hid hN
    have hxa : xa < S := by omega
    have hya : ya < S := by omega
    clear hb hw hk hN hn0
    simp only [List.length_cons, List.length_nil, Nat.zero_add, Nat.reduceAdd]
    go_enter Tryd.func49, Tryd.ntmps49
    go_upto_region 2 with fail
    clear hnW hwn
    go_wp2_with fail
    go_loopw [12] (fun iv wr => ∃ k : Nat, iv = .int .i64 k ∧ i ≤ k ∧ k ≤ j + 1 ∧ w = wr ∧ ∀ k', i ≤ k' → k' < k → ¬ (f (atN n xa i k') = true ∧ f (atN n ya k' j) = true)) (fun iv _ => j + 1 - (intOf iv).toNat)
    case atStart => exact ⟨i, rfl, Nat.le_refl _, by omega, rfl, fun k' h1 h2 => by omega⟩
    case round =>
      obtain ⟨k, rfl, hik, hkj, rfl, hno⟩ := hrel
      have hno' := Lib.hid hno
      clear hno
      by_cases hlt : k ≤ j
      · have e1 : decide ((k : Int) ≤ (j : Int)) = true := by rw [decide_eq_true_eq]; omega
        have AT1 := at_any n xa i k w (by omega) (by omega) (by omega) (by omega)
        have AT2 := Lib.hid (at_any n ya k j w (by omega) (by omega) (by omega) (by omega))
        have l1 := atN_lt (n := n) hxa (i := i) (j := k) (by omega) (by omega)
        have l2 := atN_lt (n := n) hya (i := k) (j := j) (by omega) (by omega)
        have f1 := hk'.out.at (k := atN n xa i k) (by rw [hN'.out, ← hn0'.out]; exact l1)
        have f2 := hk'.out.at (k := atN n ya k j) (by rw [hN'.out, ← hn0'.out]; exact l2)
        have l1' : (atN n xa i k : Int) < (N : Int) := by rw [hN'.out, ← hn0'.out]; omega
        have l2' : (atN n ya k j : Int) < (N : Int) := by rw [hN'.out, ← hn0'.out]; omega
        obtain ⟨q1, hq1⟩ : ∃ q, q = atN n xa i k := ⟨_, rfl⟩
        obtain ⟨q2, hq2⟩ : ∃ q, q = atN n ya k j := ⟨_, rfl⟩
        rw [← hq1] at AT1 f1 l1'
        rw [← hq2] at AT2 f2 l2'
        have hq1' := Lib.hid hq1
        have hq2' := Lib.hid hq2
        clear l1 l2 hq1 hq2
        cases h1 : f q1 with
        | false =>
          rw [h1] at f1
          have hne := Lib.hid (show ∀ k', i ≤ k' → k' < k + 1 → ¬ (f (atN n xa i k') = true ∧ f (atN n ya k' j) = true) from fun k' ha hb hc => by
            by_cases e : k' = k
            · subst e
              rw [← hq1'.out, h1] at hc
              exact absurd hc.1 (by decide)
            · exact hno'.out k' ha (by omega) hc)
          clear h1
          go_wp2_with (go_at_call 32; with_reducible refine AT1.mono ?_; rintro e w2 ⟨rfl, hw2⟩; subst hw2)
          go_roundw
          case rel => exact ⟨k + 1, by go_num, by omega, by omega, by trivial, hne.out⟩
          case measure => simp [intOf]; omega
        | true =>
          rw [h1] at f1
          cases h2 : f q2 with
          | false =>
            rw [h2] at f2
            have hne := Lib.hid (show ∀ k', i ≤ k' → k' < k + 1 → ¬ (f (atN n xa i k') = true ∧ f (atN n ya k' j) = true) from fun k' ha hb hc => by
              by_cases e : k' = k
              · subst e
                rw [← hq2'.out, h2] at hc
                exact absurd hc.2 (by decide)
              · exact hno'.out k' ha (by omega) hc)
            clear h1 h2
            go_wp2_with (first | (go_at_call 32; with_reducible refine AT1.mono ?_; rintro e w2 ⟨rfl, hw2⟩; subst hw2) | (go_at_call 32; with_reducible refine AT2.out.mono ?_; rintro e w2 ⟨rfl, hw2⟩; subst hw2))
            go_roundw
            case rel => exact ⟨k + 1, by go_num, by omega, by omega, by trivial, hne.out⟩
            case measure => simp [intOf]; omega
          | true =>
            rw [h2] at f2
            have hye := Lib.hid (show ComeP f W [(xb, (xa : Int)), (yb, (ya : Int))] i j from ⟨k, hik, hlt, by rw [← hn0'.out]; simpa [← hq1'.out] using h1, by rw [← hn0'.out]; simpa [← hq2'.out] using h2⟩)
            clear h1 h2
            go_wp2_with (first | (go_at_call 32; with_reducible refine AT1.mono ?_; rintro e w2 ⟨rfl, hw2⟩; subst hw2) | (go_at_call 32; with_reducible refine AT2.out.mono ?_; rintro e w2 ⟨rfl, hw2⟩; subst hw2))
            refine bodyPost_ret (v := .bool true) (by simp [results, Tryd.f49, go_sem]) rfl ?_
            exact ⟨⟨true, rfl, fun _ => hye.out, fun _ => rfl⟩, Far.refl _ _⟩
      · have e1 : decide ((k : Int) ≤ (j : Int)) = false := by rw [decide_eq_false_iff_not]; omega
        have e2 : decide (k ≤ j) = false := by rw [decide_eq_false_iff_not]; exact hlt
        have hr := Lib.hid (show ¬ ComeP f W [(xb, (xa : Int)), (yb, (ya : Int))] i j from fun ⟨k', h1, h2, h3, h4⟩ => hno'.out k' h1 (by omega) ⟨by rw [hn0'.out]; simpa using h3, by rw [hn0'.out]; simpa using h4⟩)
        go_wp2_with fail
        go_ret
        exact ⟨⟨false, rfl, (fun h => by cases h), fun h => absurd h hr.out⟩, Far.refl _ _⟩
  | x :: y :: z :: l, hl, _, _ => simp at hl
end
end Go.Proofs.YteojbnkjphghkaaDoor
