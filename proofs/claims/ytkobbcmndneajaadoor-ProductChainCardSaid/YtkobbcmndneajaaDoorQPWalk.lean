/-
  Walk: where just n steps lead.
-/
import Derived.Test.YtkobbcmndneajaaDoorQPLines
namespace Go.Proofs.YtkobbcmndneajaaDoor
open Go.RowKit Go.Shelf
set_option linter.unusedVariables false
set_option linter.unusedSimpArgs false
def sameL (f g : Nat → Nat) : Bool := (List.range' 0 16).all fun i => ((f i : Int) == (g i : Int))
set_option maxRecDepth 100000 in
theorem eq_runL (f g : Nat → Nat) (w : World) : (Op.equalIn 10000 162 (.agg (Rl f)) (.agg (Rl g))).run Tryd.prog w = .ok (sameL f g) w := by
  have hs : ∃ i, Tryd.prog.info? 87 = some i ∧ i.size = 1 := by
    have := wordSize
    cases h : Tryd.prog.info? 87 with
    | none => rw [h] at this; cases this
    | some i => rw [h] at this; exact ⟨i, rfl, by simpa using this⟩
  obtain ⟨i, hi, h1⟩ := hs
  have hsz : (sizeOf 87).run Tryd.prog w = .ok 1 w := by simp [sizeOf, typeInfo, hi, h1]
  have wd : Tryd.prog.underlying 87 = some (.int .u64) := by kernel_rfl
  show (Op.equalIn (9998 + 1 + 1) 162 (.agg (Rl f)) (.agg (Rl g))).run Tryd.prog w = .ok (sameL f g) w
  generalize 9998 = d
  unfold Op.equalIn
  simp only [Sem.run_bind, run_underlying lineType, hsz, Result.andThen_ok]
  have hl : ∀ i ∈ List.range' 0 16, i < 16 := fun i hi => by simpa using (List.mem_range'_1.1 hi).2
  simp
  rw [forIn_first w (fun i => ((f i : Int) == (g i : Int))) (none, ()) (some false, ()) _ _ (fun i hi => ?_)]
  · unfold sameL
    cases (List.range' 0 16).all fun i => ((f i : Int) == (g i : Int)) <;> rfl
  · have g1 := Rl_get f i (hl i hi)
    have g2 := Rl_get g i (hl i hi)
    have e := run_equalIn_int (P := Tryd.prog) w d 87 .u64 .u64 (f i) (g i) wd
    simp only [Sem.run_bind, part, g1, g2, e]
    cases hb : ((f i : Int) == (g i : Int)) <;> simp [Result.andThen, part, g1, g2, e, hb, Sem.run_bind]
theorem same_trueL {f g : Nat → Nat} (h : sameL f g = true) : ∀ i, i < 16 → f i = g i := fun i hi => by
  unfold sameL at h
  have := List.all_eq_true.1 h i (List.mem_range'_1.2 ⟨by omega, by omega⟩)
  simp at this
  omega
theorem same_falseL {f g : Nat → Nat} (h : sameL f g = false) : ∃ i, i < 16 ∧ f i ≠ g i := by
  unfold sameL at h
  obtain ⟨i, hi, hn⟩ := List.all_eq_false.1 h
  refine ⟨i, by have := (List.mem_range'_1.1 hi).2; omega, fun e => hn ?_⟩
  rw [e]; simp
/-! ### Where steps lead -/
def stepS (M : Nat → Nat → Bool) (side : Nat) (S : Nat → Bool) : Nat → Bool := fun c => (setL S side).any fun i => M i c
def walkS (M : Nat → Nat → Bool) (side start : Nat) : Nat → Nat → Bool
  | 0 => fun c => decide (c = start)
  | n + 1 => stepS M side (walkS M side start n)
theorem stepS_iff {M : Nat → Nat → Bool} {side : Nat} {S : Nat → Bool} (hw : ∀ r c, M r c = true → r < side ∧ c < side) {c : Nat} : stepS M side S c = true ↔ ∃ i, S i = true ∧ M i c = true := by
  unfold stepS
  rw [List.any_eq_true]
  constructor
  · rintro ⟨i, hi, h⟩
    exact ⟨i, (mem_setL.1 hi).2, h⟩
  · rintro ⟨i, h1, h2⟩
    exact ⟨i, mem_setL.2 ⟨(hw _ _ h2).1, h1⟩, h2⟩
theorem walkS_in {M : Nat → Nat → Bool} {side start : Nat} (hw : ∀ r c, M r c = true → r < side ∧ c < side) (hs : start < side) : ∀ n c, walkS M side start n c = true → c < side
  | 0, c, h => by simp only [walkS, decide_eq_true_eq] at h; omega
  | n + 1, c, h => by
    obtain ⟨i, _, h2⟩ := (stepS_iff hw).1 h
    exact (hw _ _ h2).2
theorem walkS_empty {M : Nat → Nat → Bool} {side start : Nat} (hw : ∀ r c, M r c = true → r < side ∧ c < side) {t : Nat} (h : ∀ c, walkS M side start t c = false) : ∀ k c, walkS M side start (t + k) c = false
  | 0, c => h c
  | k + 1, c => by
    cases e : walkS M side start (t + (k + 1)) c
    · rfl
    · obtain ⟨i, h1, _⟩ := (stepS_iff hw).1 (show stepS M side (walkS M side start (t + k)) c = true from e)
      rw [walkS_empty hw h k i] at h1
      cases h1
theorem lnW_same {S S' : Nat → Bool} (h : ∀ c, S c = S' c) : lnW S = lnW S' := by
  have : S = S' := funext h
  rw [this]
theorem lnW_none {S : Nat → Bool} (h : ∀ k, k < 16 → lnW S k = 0) : ∀ c, c < 1024 → S c = false := fun c hc => by
  have h1 : (lnW S (c / 64)).testBit (c % 64) = S (64 * (c / 64) + c % 64) := blk_bit _ _ _ (Nat.mod_lt _ (by decide))
  rw [h (c / 64) (by omega), Nat.zero_testBit, Nat.div_add_mod] at h1
  exact h1.symm
theorem lnW_join (S R : Nat → Bool) (k : Nat) (hk : k < 16) : lnW S k ||| lnW R k = lnW (fun c => S c || R c) k := by
  refine Nat.eq_of_testBit_eq fun c => ?_
  rw [Nat.testBit_or]
  by_cases hc : c < 64
  · rw [show (lnW S k).testBit c = S (64 * k + c) from blk_bit _ _ _ hc, show (lnW R k).testBit c = R (64 * k + c) from blk_bit _ _ _ hc, show (lnW (fun c => S c || R c) k).testBit c = (S (64 * k + c) || R (64 * k + c)) from blk_bit _ _ _ hc]
  · have big : ∀ x, x < 18446744073709551616 → x.testBit c = false := fun x hx => Nat.testBit_lt_two_pow (Nat.lt_of_lt_of_le hx (by rw [show (18446744073709551616 : Nat) = 2 ^ 64 from rfl]; exact Nat.pow_le_pow_right (by decide) (by omega)))
    rw [big _ (lnW_lt S k (by omega)), big _ (lnW_lt R k (by omega)), big _ (lnW_lt (fun c => S c || R c) k (by omega))]
    rfl
theorem lnW_one (start : Nat) (hs : start < 1024) : Rl (upd (fun _ => 0) (start / 64) (2 ^ (start % 64))) = Rl (lnW fun c => decide (c = start)) := Rl_congr fun k hk => by
  refine Nat.eq_of_testBit_eq fun c => ?_
  unfold upd
  by_cases hc : c < 64
  · rw [show (lnW (fun c => decide (c = start)) k).testBit c = decide (64 * k + c = start) from blk_bit _ _ _ hc]
    by_cases e : k = start / 64
    · rw [if_pos e, Nat.testBit_two_pow, decide_eq_decide]; omega
    · rw [if_neg e, Nat.zero_testBit]
      symm
      rw [decide_eq_false_iff_not]; omega
  · have big : ∀ x, x < 18446744073709551616 → x.testBit c = false := fun x hx => Nat.testBit_lt_two_pow (Nat.lt_of_lt_of_le hx (by rw [show (18446744073709551616 : Nat) = 2 ^ 64 from rfl]; exact Nat.pow_le_pow_right (by decide) (by omega)))
    rw [big _ (lnW_lt _ k (by omega))]
    by_cases e : k = start / 64
    · rw [if_pos e, Nat.testBit_two_pow, decide_eq_false_iff_not]; omega
    · rw [if_neg e, Nat.zero_testBit]
/-- The rows i of a list so far, joined. -/
def joinS (M : Nat → Nat → Bool) (l : List Nat) : Nat → Bool := fun c => l.any fun i => M i c
theorem joinS_app (M : Nat → Nat → Bool) (l : List Nat) (i : Nat) : ∀ c, (joinS M l c || M i c) = joinS M (l ++ [i]) c := fun c => by unfold joinS; simp
section
variable {w : World} {B side : Nat} {F : Nat → Prop} {M : Nat → Nat → Bool}
set_option maxHeartbeats 8000000
set_option maxRecDepth 100000
theorem walk_yes (h : Mx w B F side M) (hT : Tab w) (start n : Nat) (hst : start < side) (hn : n ≤ 1024) : Calls Tryd.prog 82 #[.pointer (some ⟨B, 0, none⟩), .int .i64 (start : Nat), .int .i64 (n : Nat)] w fun e w' => ∃ v, e = .returned (.tuple #[v, .int .i64 0]) ∧ w'.ownsRow w.heap.size 3 1 v (setL (walkS M side start n) side).length (ncells (setL (walkS M side start n) side)) ∧ Far (fun _ => False) w w' := by
  have hwin := h.within
  obtain ⟨s1, s2⟩ := h.sides
  have NO := pnone_any h.has
  rw [decide_eq_false (show ¬ side = 0 by omega)] at NO
  have SD := h.side
  have LN := lines_any h hT
  have hzl : ∀ w, (zeroValue 162).run Tryd.prog w = .ok (.agg (Rl fun _ => 0)) w := (zero_of_info lineZero).1
  have hsi : (start : Int) < (side : Int) := by omega
  have hni : (n : Int) ≤ 1024 := by omega
  have hin := walkS_in hwin hst
  have hin' := Lib.hid hin
  have hwin' := Lib.hid hwin
  clear h hin hwin
  go_enter Tryd.func82, Tryd.ntmps82
  go_wp2_with fail
  go_step3
  go_wp2_with fail
  refine NO.mono ?_
  rintro e w' ⟨rfl, rfl⟩
  clear NO
  go_wp2_with fail
  refine SD.mono ?_
  rintro e w' ⟨rfl, rfl⟩
  clear SD
  go_wp2_with fail
  refine LN.mono ?_
  rintro e w1 ⟨g, rfl, hrows, hf1⟩
  have hrows' := Lib.hid hrows
  have hf1' := Lib.hid hf1
  have hgl := (hrows.lt g rfl).2
  clear LN hrows hf1
  go_upto_region 7 with fail
  obtain ⟨h9, hh9⟩ : ∃ b, b = w1.heap.size := ⟨_, rfl⟩
  obtain ⟨w2, hw2⟩ : ∃ V, V = w1.alloc (.cells (Rl fun _ => 0) 162) := ⟨_, rfl⟩
  rw [← hh9, ← hw2]
  have hf12 : Far (fun _ => False) w1 w2 := hw2 ▸ (Far.refl _ w1).alloc _
  have hB9 : Bk w2 h9 162 (Rl fun _ => 0) := hw2 ▸ Bk.new hh9
  obtain ⟨sq, hsq⟩ : ∃ q, q = start / 64 := ⟨_, rfl⟩
  obtain ⟨sc, hsc⟩ : ∃ q, q = start % 64 := ⟨_, rfl⟩
  have hsq16 : sq < 16 := by omega
  have hsc64 : sc < 64 := by omega
  have hmin : min sc 64 = sc := Nat.min_eq_left (by omega)
  have wq := quo64 start sq hsq
  have wt := tmod64 start sc hsc
  have wjq := wrap_sm sq (by omega)
  have c9 : w2.cell? ⟨h9, sq, none⟩ = some (.int .u64 0) := by have := (hB9.cell sq).trans (Rl_get (fun _ => 0) sq hsq16); exact this
  have f9 := hB9.free sq
  have hgh : g < h9 := by omega
  have hsqi : (sq : Int) < 16 := by omega
  have hs1 : Rl (upd (fun _ => 0) sq (2 ^ sc)) = Rl (lnW (walkS M side start 0)) := by rw [hsq, hsc]; exact lnW_one start (by omega)
  have hw1 : IntKind.u64.wrap (2 ^ sc) = ((2 ^ sc : Nat) : Int) := wrap_pw hsc64
  have hs1' := Lib.hid hs1
  have hB9' := Lib.hid hB9
  have hrows2 := Lib.hid (row_same hrows'.out fun k hk hl => hf12.block k hl id)
  have hf2 := Lib.hid (hf1'.out.then hf12)
  have hh9' := Lib.hid (show w.heap.size ≤ h9 by have := hf1'.out.size; omega)
  clear hsq hsc hw2 hh9 hf12 hB9 hs1 hrows' hf1'
  go_wp2_with fail
  obtain ⟨w3, hw3⟩ : ∃ V, V = w2.setCell ⟨h9, sq, none⟩ (.int .u64 (2 ^ sc)) := ⟨_, rfl⟩
  rw [← hw3]
  have hB93 : Bk w3 h9 162 (Rl (lnW (walkS M side start 0))) := by
    have h1 := hB9'.out.set sq (.int .u64 (2 ^ sc))
    rw [show (Value.int .u64 ((2 : Int) ^ sc)) = Value.int .u64 ((2 ^ sc : Nat) : Int) by rw [Int.natCast_pow]; rfl, Rl_set _ _ _ hsq16, hs1'.out, show (Value.int .u64 ((2 ^ sc : Nat) : Int)) = (Value.int .u64 ((2 : Int) ^ sc)) by rw [Int.natCast_pow]; rfl, ← hw3] at h1
    exact h1
  have hrows3 : w3.ownsRow w.heap.size 162 16 (.slice (some ⟨g, 0, none⟩) side side) side (lnRows M side).flatten := hw3 ▸ row_same hrows2.out fun k hk hl => RowKit.Below.heap_setCell _ _ _ _ (by
    have : g = k := Option.some.inj hk
    show k ≠ h9
    omega)
  have hf3 : Far (fun k => k = h9) w w3 := hw3 ▸ (hf2.out.mono fun _ _ h => h.elim).set ⟨h9, sq, none⟩ _ fun _ => rfl
  have hB93' := Lib.hid hB93
  have hrows3' := Lib.hid hrows3
  have hf3' := Lib.hid hf3
  clear hB93 hrows3 hf3 hw3 c9 f9 hs1' hB9' hrows2 hf2 hw1
  go_step3
  go_wp2_with fail
  go_loopw [10, 12, 13, 14, 42] (fun _ _ _ _ iv wr => ∃ t : Nat, t ≤ n ∧ iv = .int .i64 (t : Nat) ∧ Bk wr h9 162 (Rl (lnW (walkS M side start t))) ∧ wr.ownsRow w.heap.size 162 16 (.slice (some ⟨g, 0, none⟩) side side) side (lnRows M side).flatten ∧ Far (fun k => k = h9) w wr) (fun _ _ _ _ iv _ => n - (intOf iv).toNat)
  case atStart => exact ⟨0, Nat.zero_le _, rfl, hB93'.out, hrows3'.out, hf3'.out⟩
  case round =>
    clear hB93' hrows3' hf3'
    obtain ⟨t, ht, rfl, hB9, hrows, hf⟩ := hrel
    obtain ⟨S, hS⟩ : ∃ S, walkS M side start t = S := ⟨_, rfl⟩
    rw [hS] at hB9
    have hSin : ∀ x, S x = true → x < side := fun x hx => hin'.out t x (by rw [hS]; exact hx)
    have hB9' := Lib.hid hB9
    have hrows' := Lib.hid hrows
    have hf' := Lib.hid hf
    have hS' := Lib.hid hS
    by_cases hlt : t < n
    · have hti : (t : Int) < (n : Int) := by omega
      clear hB9 hrows hf hS
      go_upto_region 11 with fail
      obtain ⟨h10, hh10⟩ : ∃ b, b = wr.heap.size := ⟨_, rfl⟩
      obtain ⟨w4, hw4⟩ : ∃ V, V = wr.alloc (.cells (Rl fun _ => 0) 162) := ⟨_, rfl⟩
      rw [← hh10, ← hw4]
      have hf14 : Far (fun _ => False) wr w4 := hw4 ▸ (Far.refl _ wr).alloc _
      have hB10 : Bk w4 h10 162 (Rl fun _ => 0) := hw4 ▸ Bk.new hh10
      have hB94 := hB9'.out.far' hf14 id
      have hT4 : Tab w4 := (hT.far (hf'.out.trans hf14 fun _ _ h => h.elim) (fun e => by have := hT.lt; have := hh9'.out; omega))
      have ME := members_any (lnW S) (fun k hk => lnW_lt S k (by omega)) w4 hT4
      rw [setL_eq s2 hSin] at ME
      have hB10' := Lib.hid hB10
      have hf4 := Lib.hid (hf'.out.trans hf14 fun _ _ h => h.elim)
      have hrows4 := Lib.hid (row_same hrows'.out fun k hk hl => hf14.block k hl id)
      have hB94' := Lib.hid hB94
      have hh10' := Lib.hid (show h9 < h10 ∧ w.heap.size ≤ h10 by have := hB9'.out.lt; have := hh9'.out; omega)
      clear hw4 hh10 hf14 hB10 hT4
      go_wp2_with (first | (refine wpList_ldL rfl _ rfl _ rfl hB94 ?_) | (refine ME.mono ?_; rintro e w5 ⟨v, rfl, hown, hf5⟩; obtain ⟨lo, lc, rfl⟩ := q_form hown; have hown' := Lib.hid hown; have hf5' := Lib.hid hf5; clear ME hown hf5 hB94))
      have hB105 := Lib.hid (hB10'.out.far' hf5'.out id)
      have hB95 := Lib.hid (hB94'.out.far' hf5'.out id)
      have hrows5 := Lib.hid (row_same hrows4.out fun k hk hl => hf5'.out.block k hl id)
      have hf5w := Lib.hid (hf4.out.trans hf5'.out fun _ _ h => h.elim)
      obtain ⟨nl, hnl⟩ : ∃ m, m = (setL S side).length := ⟨_, rfl⟩
      have hnlb : nl ≤ 1024 := by rw [hnl]; exact Nat.le_trans (setL_le S side) s2
      rw [← hnl] at hown' ⊢
      have hnl' := Lib.hid hnl
      clear hf4 hrows4 hB94' hB10' hf5' hnl
      obtain ⟨wo, hwo⟩ : ∃ wo, wo = w5 := ⟨_, rfl⟩
      rw [← hwo] at hB105 hB95 hrows5 hf5w hown' ⊢
      clear hwo
      go_loopw [12, 13, 14, 47] (fun _ _ _ jv wr => ∃ j : Nat, j ≤ nl ∧ jv = .int .i64 (j : Nat) ∧ Bk wr h10 162 (Rl (lnW (joinS M ((setL S side).take j)))) ∧ Far (fun k => k = h10) wo wr) (fun _ _ _ jv _ => nl - (intOf jv).toNat)
      case atStart => exact ⟨0, Nat.zero_le _, rfl, by
        have := hB105.out
        rw [show (Rl fun _ => 0) = Rl (lnW (joinS M ((setL S side).take 0))) from Rl_congr fun k hk => (lnW_zero k hk).symm] at this
        exact this, Far.refl _ _⟩
      case round =>
        obtain ⟨j, hj, rfl, hB10, hfo⟩ := hrel
        have hownr := row_same hown'.out fun q hq hl => hfo.block q hl fun e => by
          obtain ⟨_, _, cs, hb⟩ := own_type hown'.out hq
          subst e
          exact absurd (bk_type hb hB105.out) (by decide)
        have hrowsr := row_same hrows5.out fun q hq hl => hfo.block q hl fun e => by
          have : g = q := Option.some.inj hq
          have := hh10'.out
          omega
        have hB9r := hB95.out.far' hfo (by have := hh10'.out; omega)
        by_cases hjl : j < nl
        · have hji : (j : Int) < (nl : Int) := by omega
          obtain ⟨x, hx⟩ : ∃ x, (setL S side)[j]? = some x := ⟨(setL S side)[j]'(by rw [← hnl'.out]; exact hjl), List.getElem?_eq_getElem _⟩
          have hxs : x < side := (mem_setL.1 (List.mem_of_getElem? hx)).1
          have hxi : (x : Int) < (side : Int) := by omega
          obtain ⟨gl, c2, hsv, _⟩ := hownr.form (by omega)
          cases hsv
          have e0 : wr.cell? ⟨gl, j, none⟩ = some (.int .i64 (x : Nat)) := by have := hownr.cellAt j (by omega); rw [this]; exact ncells_at hx
          have hr : wr.rangeAt g (x * 16) (Rl (lnW (M x))).toList := own_range hrowsr (lnRows_even M side) (lnRows_get M hxs)
          have hstep : ∀ c, (joinS M ((setL S side).take j) c || M x c) = joinS M ((setL S side).take (j + 1)) c := fun c => by rw [joinS_app, List.take_add_one, hx]; rfl
          have hstep' := Lib.hid hstep
          have hB10' := Lib.hid hB10
          have hfo' := Lib.hid hfo
          obtain ⟨N, hN⟩ : ∃ N, lnW (joinS M ((setL S side).take j)) = N := ⟨_, rfl⟩
          obtain ⟨R, hR⟩ : ∃ R, lnW (M x) = R := ⟨_, rfl⟩
          have hNw : ∀ k, k < 16 → N k < 18446744073709551616 := fun k hk => hN ▸ lnW_lt _ k (by omega)
          have hRw : ∀ k, k < 16 → R k < 18446744073709551616 := fun k hk => hR ▸ lnW_lt _ k (by omega)
          rw [hN] at hB10'
          rw [hR] at hr
          have hN' := Lib.hid hN
          have hR' := Lib.hid hR
          clear hB10 hfo hownr hrowsr hB9r hx hstep hN hR
          go_wp2_with (first | (refine wpList_lmL rfl _ rfl _ _ rfl hr ?_))
          obtain ⟨wq9, hwq9⟩ : ∃ wq, wq = wr := ⟨_, rfl⟩
          rw [← hwq9] at hB10' hfo' ⊢
          clear hwq9 e0 hr
          go_loopw [13, 14, 55] (fun _ _ kv wr => ∃ k : Nat, k ≤ 16 ∧ kv = .int .i64 (k : Nat) ∧ Bk wr h10 162 (Rl fun q => if q < k then N q ||| R q else N q) ∧ Far (fun k => k = h10) wo wr) (fun _ _ kv _ => 16 - (intOf kv).toNat)
          case atStart => exact ⟨0, by omega, rfl, by
            have := hB10'.out
            rw [show Rl N = Rl (fun q => if q < 0 then N q ||| R q else N q) from Rl_congr fun q _ => by simp] at this
            exact this, hfo'.out⟩
          case round =>
            clear hB10' hfo'
            obtain ⟨k, hk, rfl, hB, hF⟩ := hrel
            by_cases hkl : k < 16
            · have hki : (k : Int) < 16 := by omega
              have hix := fun w => run_ixL R k hkl w
              have c10 : wr.cell? ⟨h10, k, none⟩ = some (.int .u64 (N k : Nat)) := by
                have := (hB.cell k).trans (Rl_get _ k hkl)
                rw [if_neg (Nat.lt_irrefl _)] at this
                exact this
              have f10 := hB.free k
              have hor : bits .or .u64 (N k : Int) (R k : Int) = ((N k ||| R k : Nat) : Int) := bits_or64 _ _ (hNw k hkl) (hRw k hkl)
              have hB3 : Bk (wr.setCell ⟨h10, k, none⟩ (.int .u64 ((N k ||| R k : Nat)))) h10 162 (Rl fun q => if q < k + 1 then N q ||| R q else N q) := by
                have h1 := hB.set k (.int .u64 ((N k ||| R k : Nat)))
                rw [Rl_set _ _ _ hkl] at h1
                rw [Rl_congr (g := upd (fun q => if q < k then N q ||| R q else N q) k (N k ||| R k)) fun q hq => ?_]
                · exact h1
                · unfold upd
                  by_cases e : q = k
                  · subst e; simp
                  · by_cases e2 : q < k
                    · simp [e, e2, show q < k + 1 by omega]
                    · simp [e, e2, show ¬ q < k + 1 by omega]
              have hB3' := Lib.hid hB3
              have hF3 := Lib.hid (hF.set ⟨h10, k, none⟩ (.int .u64 ((N k ||| R k : Nat))) fun _ => rfl)
              clear hB hF hB3
              go_wp2_with fail
              exact ⟨⟨k + 1, by omega, by go_num, hB3'.out, hF3.out⟩, by simp [intOf]; omega⟩
            · have hke : k = 16 := by omega
              subst hke
              have hB4 := Lib.hid (show Bk wr h10 162 (Rl (lnW (joinS M ((setL S side).take (j + 1))))) by
                rw [Rl_congr (g := fun q => if q < 16 then N q ||| R q else N q) fun q hq => ?_]
                · exact hB
                · rw [if_pos hq, ← hN'.out, ← hR'.out, lnW_join _ _ _ hq, lnW_same hstep'.out])
              have hF4 := Lib.hid hF
              clear hB hF
              go_wp2_with fail
              exact ⟨⟨j + 1, by omega, by go_num, hB4.out, hF4.out⟩, by simp [intOf]; omega⟩
        · have hje : j = nl := by omega
          subst hje
          have hfull : (setL S side).take j = setL S side := List.take_of_length_le (by rw [← hnl'.out]; exact Nat.le_refl _)
          rw [hfull] at hB10
          have hnx : ∀ c, joinS M (setL S side) c = walkS M side start (t + 1) c := fun c => by show _ = stepS M side (walkS M side start t) c; rw [hS'.out]; rfl
          rw [lnW_same hnx] at hB10
          obtain ⟨f, hfe⟩ : ∃ f, lnW (walkS M side start (t + 1)) = f := ⟨_, rfl⟩
          rw [hfe] at hB10
          obtain ⟨w6, hw6⟩ : ∃ V, V = wr.setRow h9 (Rl f) := ⟨_, rfl⟩
          have hB96 : Bk w6 h9 162 (Rl f) := hw6 ▸ setRow_heap wr h9 _ _ _ _ hB9r
          have hfr : Far (fun k => k = h9) wr w6 := hw6 ▸ far_row (F := fun k => k = h9) (Far.refl _ wr) (fun _ => rfl) _
          have hrows6 := row_same hrowsr fun q hq hl => hfr.block q hl fun e => by
            have : g = q := Option.some.inj hq
            omega
          have hFw : Far (fun k => k = h9) w w6 := (hf5w.out.trans (G := fun k => k = h10 ∨ k = h9) ((hfo.mono fun k _ e => .inl e).trans (hfr.mono fun k _ e => .inr e) fun _ _ h => h) fun k hk e => by have := hh10'.out; omega)
          have E := fun w' => eq_runL f (fun _ => 0) w'
          obtain ⟨b, hb⟩ : ∃ b, sameL f (fun _ => 0) = b := ⟨_, rfl⟩
          simp only [hb] at E
          have hB10' := Lib.hid hB10
          have hB9r' := Lib.hid hB9r
          have hB96' := Lib.hid hB96
          have hrows6' := Lib.hid hrows6
          have hFw' := Lib.hid hFw
          have hw6' := Lib.hid hw6
          have hfe' := Lib.hid hfe
          have hb' := Lib.hid hb
          have x1 := hB10
          have x2 := hB9r
          clear hB10 hfo hownr hrowsr hB9r hB96 hfr hrows6 hFw hw6 hfe hb hfull hnx
          cases b
          · go_wp2_with (first | (refine wpList_stL rfl _ _ rfl _ rfl f rfl x2 ?_; rw [← hw6'.out]; have x3 := hB96'.out; clear x1 x2) | (refine wpList_ldL rfl _ rfl _ rfl x1 ?_) | (refine wpList_ldL rfl _ rfl _ rfl x3 ?_; clear x3) | (refine wpList_bdL rfl rfl ?_))
            exact ⟨⟨t + 1, by omega, by go_num, by rw [hfe'.out]; exact hB96'.out, hrows6'.out, hFw'.out⟩, by simp [intOf]; omega⟩
          · have hz := same_trueL hb'.out
            have he0 : ∀ c, walkS M side start (t + 1) c = false := fun c => by
              by_cases hc : c < 1024
              · exact lnW_none (fun k hk => by rw [hfe'.out]; exact hz k hk) c hc
              · cases e : walkS M side start (t + 1) c
                · rfl
                · have := hin'.out _ _ e
                  omega
            have heq : ∀ c, walkS M side start (t + 1) c = walkS M side start n c := fun c => by
              rw [he0 c]
              have := walkS_empty hwin'.out he0 (n - (t + 1)) c
              rw [show t + 1 + (n - (t + 1)) = n by omega] at this
              exact this.symm
            have hFE := Lib.hid hFw'.out
            have hTe : Tab w6 := hT.far hFE.out (fun e => by have := hT.lt; have := hh9'.out; omega)
            have ME2 := members_any f (fun k hk => hfe'.out ▸ lnW_lt _ k (by omega)) w6 hTe
            have hl9 : flatN (cellsUp f 16) = setL (walkS M side start n) side := by
              rw [← hfe'.out, lnW_same heq]
              exact setL_eq s2 (hin'.out n)
            rw [hl9] at ME2
            clear hz he0 heq hTe hl9
            go_wp2_with (first | (refine wpList_stL rfl _ _ rfl _ rfl f rfl x2 ?_; rw [← hw6'.out]; have x3 := hB96'.out; clear x1 x2) | (refine wpList_ldL rfl _ rfl _ rfl x1 ?_) | (refine wpList_ldL rfl _ rfl _ rfl x3 ?_) | (refine wpList_bdL rfl rfl ?_) | (refine ME2.mono ?_; rintro e w9 ⟨v9, rfl, hown9, hf9⟩; obtain ⟨vo, vc, rfl⟩ := q_form hown9; have hown9' := Lib.hid hown9; have hf9' := Lib.hid hf9; clear ME2 hown9 hf9 x3))
            rw [Exit.noGoto_ret]
            refine bodyPost_ret (v := .tuple #[.slice vo (setL (walkS M side start n) side).length vc, .int .i64 0]) (by simp [results, Tryd.f82, go_sem]) rfl ⟨_, rfl, own_base hFE.out.size hown9'.out, ((hFE.out.mono (G := fun k => w.heap.size ≤ k) fun k _ e => by have := hh9'.out; omega).trans (G := fun _ => False) hf9'.out fun _ _ h => h.elim).mono fun k hk e => by omega⟩
    · have hte : t = n := by omega
      subst hte
      have x3 := hB9
      have hFE := Lib.hid hf
      have hTe : Tab wr := hT.far hf (fun e => by have := hT.lt; have := hh9'.out; omega)
      have ME2 := members_any (lnW S) (fun k hk => lnW_lt S k (by omega)) wr hTe
      rw [show flatN (cellsUp (lnW S) 16) = setL (walkS M side start t) side by rw [hS]; exact setL_eq s2 hSin] at ME2
      clear hB9 hf hTe hrows hS
      go_wp2_with (first | (refine wpList_ldL rfl _ rfl _ rfl x3 ?_) | (refine ME2.mono ?_; rintro e w9 ⟨v9, rfl, hown9, hf9⟩; obtain ⟨vo, vc, rfl⟩ := q_form hown9; have hown9' := Lib.hid hown9; have hf9' := Lib.hid hf9; clear ME2 hown9 hf9 x3))
      rw [Exit.noGoto_ret]
      refine bodyPost_ret (v := .tuple #[.slice vo (setL (walkS M side start t) side).length vc, .int .i64 0]) (by simp [results, Tryd.f82, go_sem]) rfl ⟨_, rfl, own_base hFE.out.size hown9'.out, ((hFE.out.mono (G := fun k => w.heap.size ≤ k) fun k _ e => by have := hh9'.out; omega).trans (G := fun _ => False) hf9'.out fun _ _ h => h.elim).mono fun k hk e => by omega⟩
end
end Go.Proofs.YtkobbcmndneajaaDoor
