/-
  remade: another matrix, of each leaf what a function says.
-/
import Derived.Test.YtoaeeojnelmlnaaDoorQSpots
namespace Go.Proofs.YtoaeeojnelmlnaaDoor
open Go.RowKit
set_option linter.unusedVariables false
set_option linter.unusedSimpArgs false
/-- The cells that come of leaves put one by one. -/
def foldP (tp : Nat × Nat → Nat × Nat) (ct : Nat × Nat → Nat → Nat) : List (Nat × Nat) → Nat → Nat → Bool
  | [] => fun _ _ => false
  | p :: l => fun r c => foldP tp ct l r c || (decide (r / 64 = (tp p).1) && decide (c / 64 = (tp p).2) && bt (ct p) (r % 64) (c % 64))
theorem foldP_iff {tp : Nat × Nat → Nat × Nat} {ct : Nat × Nat → Nat → Nat} {r c : Nat} : ∀ {l : List (Nat × Nat)}, foldP tp ct l r c = true ↔ ∃ p ∈ l, r / 64 = (tp p).1 ∧ c / 64 = (tp p).2 ∧ bt (ct p) (r % 64) (c % 64) = true
  | [] => by simp [foldP]
  | p :: l => by
    have ih := foldP_iff (tp := tp) (ct := ct) (r := r) (c := c) (l := l)
    simp only [foldP, Bool.or_eq_true, Bool.and_eq_true, decide_eq_true_eq, ih, List.mem_cons]
    constructor
    · rintro (⟨q, hq, h⟩ | ⟨⟨h1, h2⟩, h3⟩)
      · exact ⟨q, .inr hq, h⟩
      · exact ⟨p, .inl rfl, h1, h2, h3⟩
    · rintro ⟨q, rfl | hq, h1, h2, h3⟩
      · exact .inr ⟨⟨h1, h2⟩, h3⟩
      · exact .inl ⟨q, hq, h1, h2, h3⟩
theorem foldP_app (tp : Nat × Nat → Nat × Nat) (ct : Nat × Nat → Nat → Nat) (l : List (Nat × Nat)) (p : Nat × Nat) : ∀ r c, orM (foldP tp ct l) (tp p).1 (tp p).2 (ct p) r c = foldP tp ct (l ++ [p]) r c := fun r c => by
  rw [Bool.eq_iff_iff, foldP_iff]
  unfold orM
  simp only [Bool.or_eq_true, Bool.and_eq_true, decide_eq_true_eq, foldP_iff, List.mem_append, List.mem_singleton]
  constructor
  · rintro (⟨q, hq, h⟩ | ⟨⟨h1, h2⟩, h3⟩)
    · exact ⟨q, .inl hq, h⟩
    · exact ⟨p, .inr rfl, h1, h2, h3⟩
  · rintro ⟨q, hq | rfl, h1, h2, h3⟩
    · exact .inl ⟨q, hq, h1, h2, h3⟩
    · exact .inr ⟨⟨h1, h2⟩, h3⟩
theorem placesL_few (M : Nat → Nat → Bool) {side : Nat} (h : side ≤ 1024) : (placesL M side).length ≤ 256 := by
  have h1 := gridL_len M (lns side) (lns side)
  have h2 := lns_le h
  have h3 : lns side * lns side ≤ 16 * 16 := Nat.mul_le_mul h2 h2
  unfold placesL; omega
theorem spotSize : (Tryd.prog.info? 99).map (·.size) = some 66 := by kernel_rfl
theorem spotZero : (Tryd.prog.info? 99).map (fun i => (i.zero, i.size)) = some (some (.agg (spt 0 0 fun _ => 0)), 66) := by kernel_rfl
theorem sp_range {w : World} {g o i j : Nat} {f : Nat → Nat} (h : w.rangeAt g o (spt i j f).toList) : (loadVar 99 ⟨g, o, none⟩).run Tryd.prog w = .ok (.agg (spt i j f)) w := by
  have := run_loadVar_mid (P := Tryd.prog) w g o 99 (spt i j f).toList _ h Tryd.underlying99 rfl (by rw [spotSize]; simp [spt_size])
  simpa using this
/-- A leaf with its place, out of memory. -/
theorem wpList_sp {ops : Array Oper} {rest : List Oper} {o : Oper} {a : Act} {w : World} {Q : Exit → Act → World → Prop} (hgd : Region.wanted o (yielded ops a.tmps) = true) (x : Operand) (ho : o.op = .load 99 x)
    (g k : Nat) (hx : a.eval x = .pointer (some ⟨g, k, none⟩)) {i j : Nat} {f : Nat → Nat} (hg : w.rangeAt g k (spt i j f).toList)
    (h : wpList Tryd.prog ops Q rest (a.put o.dst (.agg (spt i j f))) w) : wpList Tryd.prog ops Q (o :: rest) a w :=
  wpList_want hgd fun _ hK => by
    unfold Oper.wp execOp
    simp only [ho, hx, Instr.loadAt, Instr.sureAddr, Sem.run_bind, Sem.run_pure, Result.andThen_ok, sp_range hg]
    rw [Oper.upon_value]
    exact hK _ _ h
/-- A variable that holds a leaf with its place. -/
abbrev SpB (w : World) (g : Nat) (X : Array Value) : Prop := Bk w g 99 X
theorem SpB.range {w : World} {g : Nat} {X : Array Value} (h : SpB w g X) : w.rangeAt g 0 X.toList := fun k v hv => by
  rw [Nat.zero_add, h.cell k]
  simpa using hv
theorem SpB.leaf {w : World} {g i j : Nat} {f : Nat → Nat} (h : SpB w g (spt i j f)) : w.rangeAt g 2 (Rw f).toList := fun k v hv => by
  rw [h.cell (2 + k)]
  unfold spt
  rw [Array.getElem?_append_right (by simp)]
  simpa using hv
theorem SpB.at {w : World} {g i j : Nat} {f : Nat → Nat} (h : SpB w g (spt i j f)) : w.cell? ⟨g, 0, none⟩ = some (.int .i64 (i : Nat)) ∧ w.cell? ⟨g, 1, none⟩ = some (.int .i64 (j : Nat)) := by
  rw [h.cell 0, h.cell 1]
  unfold spt
  exact ⟨by rw [Array.getElem?_append_left (by simp)]; rfl, by rw [Array.getElem?_append_left (by simp)]; rfl⟩
theorem SpB.row {w : World} {g : Nat} {X : Array Value} (h : SpB w g X) (Y : Array Value) : SpB (w.setRow g Y) g Y := setRow_heap w g X Y _ _ h
/-- Into such a variable. -/
theorem wpList_spst {ops : Array Oper} {rest : List Oper} {o : Oper} {a : Act} {w : World} {Q : Exit → Act → World → Prop} (hgd : o.guard = none) (x y : Operand) (ho : o.op = .store 99 x y)
    (g : Nat) (hx : a.eval x = .pointer (some ⟨g, 0, none⟩)) {X : Array Value} {i j : Nat} {f : Nat → Nat} (hy : a.eval y = .agg (spt i j f)) (hg : SpB w g X) (hX : X.size = 66)
    (h : wpList Tryd.prog ops Q rest (a.put o.dst undef) (w.setRow g (spt i j f))) : wpList Tryd.prog ops Q (o :: rest) a w :=
  wpList_store_row hgd 99 x y ho g (spt i j f) hx hy 99 X hg (by rw [spotSize, spt_size]) (by rw [hX, spt_size]) (spt_one i j f) h
section
variable {w w' : World} {B side : Nat} {F : Nat → Prop} {M : Nat → Nat → Bool}
section
set_option maxHeartbeats 4000000
set_option maxRecDepth 100000
theorem qremade_any (h : Mx w B F side M) (gf : Nat) (lb : Array Value) (tp : Nat × Nat → Nat × Nat) (ct : Nat × Nat → Nat → Nat)
    (hEG : ∀ args w, (callFunc gf args).run Tryd.prog w = .ok (.enter gf args) w)
    (hcall : ∀ p ∈ placesL M side, ∀ W, Far (fun _ => False) w W → Calls Tryd.prog gf (#[.agg (spt p.1 p.2 (blk (sub M p.1 p.2)))] ++ lb) W fun e w' => e = .returned (.agg (spt (tp p).1 (tp p).2 (ct p))) ∧ Far (fun _ => False) W w')
    (hfit : ∀ p ∈ placesL M side, (tp p).1 < lns side ∧ (tp p).2 < lns side ∧ Wf (ct p) ∧ ∀ r c, r < 64 → c < 64 → bt (ct p) r c = true → 64 * (tp p).1 + r < side ∧ 64 * (tp p).2 + c < side) :
    Calls Tryd.prog 60 #[.pointer (some ⟨B, 0, none⟩), .func (.func gf) #[] lb] w fun e w' => ∃ B', e = .returned (.pointer (some ⟨B', 0, none⟩)) ∧ ∃ F', Mx w' B' F' side (foldP tp ct (placesL M side)) ∧ (∀ k, F' k → w.heap.size ≤ k) ∧ Far (fun _ => False) w w' := by
  have hzs : ∀ w, (zeroValue 99).run Tryd.prog w = .ok (.agg (spt 0 0 fun _ => 0)) w := (zero_of_info spotZero).1
  have hS := Lib.hid h
  obtain ⟨s1, s2⟩ := h.sides
  obtain ⟨lv, root, nv, lvv, ns, A, ps, hq, hfull, hF⟩ := h
  have p0 : w.cell? ⟨B, 0, none⟩ = some (.int .i64 (side : Nat)) := hq.box.cell 0
  clear hq hfull hF
  have hcall' := Lib.hid hcall
  have hfit' := Lib.hid hfit
  clear hcall hfit
  go_enter Tryd.func60, Tryd.ntmps60
  go_wp2_with fail
  refine (qempty_any side s1 s2 w).mono ?_
  rintro e w1 ⟨rfl, l, hl, hw, hB, hf1⟩
  have hN := Lib.hid (Qd.new s1 s2 hl hw hB)
  have hf1' := Lib.hid hf1
  have hw1 := hB.lt
  have SP := qspots_any (hS.out.still hf1)
  clear hB hf1
  go_wp2_with fail
  refine SP.mono ?_
  rintro e w2 ⟨v, rfl, ho, hf2⟩
  obtain ⟨ao, cap, rfl⟩ := q_form ho
  have hN2 := Lib.hid (hN.out.still hf2)
  have hf2' := Lib.hid (hf1'.out.then hf2)
  have ho' := Lib.hid ho
  have hlo := Lib.hid (ho.lt)
  have hM2 : Mx w2 w.heap.size (Qf w.heap.size (.slice none 0 0) (.slice none 0 0)) side (fun _ _ => false) := ⟨l, 0, _, _, _, _, _, hN2.out, fun p hp => (by cases hp), rfl⟩
  have hM2' := Lib.hid hM2
  clear ho hf2 hM2 hN hN2 SP hf1' p0
  go_wp2_with fail
  go_loopw [17] (fun iv wr => ∃ k : Nat, k ≤ (placesL M side).length ∧ iv = .int .i64 (k : Nat) ∧ (∃ F', Mx wr w.heap.size F' side (foldP tp ct ((placesL M side).take k)) ∧ (∀ q, F' q → q = w.heap.size ∨ w2.heap.size ≤ q)) ∧ Far (fun k => k = w.heap.size ∨ w2.heap.size ≤ k) w2 wr) (fun iv _ => (placesL M side).length - (intOf iv).toNat)
  case atStart =>
    refine ⟨0, Nat.zero_le _, rfl, ⟨_, hM2'.out, ?_⟩, Far.refl _ _⟩
    rintro q (e | e | e)
    · exact .inl e
    · cases e
    · cases e
  case round =>
    clear hM2'
    obtain ⟨k, hk, rfl, ⟨F1, hX, hF1⟩, hf⟩ := hrel
    by_cases hlt : k < (placesL M side).length
    · have hp := List.getElem?_eq_getElem hlt
      obtain ⟨p, hpe⟩ : ∃ p, (placesL M side)[k] = p := ⟨_, rfl⟩
      rw [hpe] at hp
      have hmem := List.mem_of_getElem? hp
      obtain ⟨t1, t2, t3, t4⟩ := hfit'.out p hmem
      have hwr : Far (fun _ => False) w wr := hf2'.out.trans hf (fun q hq e => by have := hf2'.out.size; rcases e with e | e <;> omega)
      have hoR := row_same ho'.out fun q hq hl2 => hf.block q hl2 (by
        have := (hlo.out q hq).1
        rintro (e | e) <;> omega)
      have hnn : 0 < (placesL M side).length := by omega
      have hk256 : k < 256 := Nat.lt_of_lt_of_le hlt (placesL_few M s2)
      obtain ⟨g, c2, hsv, _⟩ := hoR.form hnn
      cases hsv
      have hr : wr.rangeAt g (k * 66) (spt p.1 p.2 (blk (sub M p.1 p.2))).toList := own_range hoR (srows_even M _) (srows_get hp)
      have HC := hcall'.out p hmem
      have dk : (k : Int) < ((placesL M side).length : Int) := by omega
      have hX' := Lib.hid hX
      have hf' := Lib.hid hf
      have hF1' := Lib.hid hF1
      have hwr' := Lib.hid hwr
      obtain ⟨n, hn⟩ : ∃ n, (placesL M side).length = n := ⟨_, rfl⟩
      have hn' := Lib.hid hn
      clear hoR hX hf hF1 hwr hpe hn
      go_wp2_with (first | (refine wpList_sp rfl _ rfl _ _ rfl hr ?_) | (refine wpList_spst rfl _ _ rfl _ rfl rfl (Bk.new rfl) (spt_size _ _ _) ?_) | (refine wpList_sp rfl _ rfl _ _ rfl (SpB.range (SpB.row (Bk.new rfl) _)) ?_))
      have hfa : Far (fun _ => False) wr ((wr.alloc (.cells (spt 0 0 fun _ => 0) 99)).setRow wr.heap.size (spt p.1 p.2 (blk (sub M p.1 p.2)))) := far_row ((Far.refl _ wr).alloc _) (fun h => absurd h (Nat.lt_irrefl _)) _
      refine (HC _ (hwr'.out.then hfa)).mono ?_
      rintro e w4 ⟨rfl, hf4⟩
      have hf4' := Lib.hid (hfa.then hf4)
      clear hfa hf4 HC hr
      have hb5 : SpB ((w4.alloc (.cells (spt 0 0 fun _ => 0) 99)).setRow w4.heap.size (spt (tp p).1 (tp p).2 (ct p))) w4.heap.size (spt (tp p).1 (tp p).2 (ct p)) := SpB.row (Bk.new rfl) _
      obtain ⟨c0, c1⟩ := SpB.at hb5
      have hr5 := SpB.leaf hb5
      have hfb : Far (fun _ => False) w4 ((w4.alloc (.cells (spt 0 0 fun _ => 0) 99)).setRow w4.heap.size (spt (tp p).1 (tp p).2 (ct p))) := far_row ((Far.refl _ w4).alloc _) (fun h => absurd h (Nat.lt_irrefl _)) _
      have hf5' := Lib.hid (hf4'.out.then hfb)
      clear hb5 hfb
      go_wp2_with (first | (refine wpList_spst rfl _ _ rfl _ rfl rfl (Bk.new rfl) (spt_size _ _ _) ?_) | (refine wpList_lf rfl _ rfl _ _ rfl hr5 ?_))
      obtain ⟨w5, hw5⟩ : ∃ w5, w5 = (w4.alloc (.cells (spt 0 0 fun _ => 0) 99)).setRow w4.heap.size (spt (tp p).1 (tp p).2 (ct p)) := ⟨_, rfl⟩
      rw [← hw5] at hf5' ⊢
      have PT := qput_any (hX'.out.still hf5'.out) (tp p).1 (tp p).2 t1 t2 t3 t4
      clear c0 c1 hr5 hw5 hf4' hcall' hfit'
      refine PT.mono ?_
      rintro e w6 ⟨rfl, F2, hX2, hm⟩
      have hX2' := Lib.hid hX2
      have hm' := Lib.hid hm
      clear hX2 hm PT
      go_wp2_with fail
      go_roundw
      case rel =>
        refine ⟨k + 1, by omega, by simp, ⟨F2, ?_, fun q hq => ?_⟩, ?_⟩
        · rw [List.take_add_one, hp]
          exact hX2'.out.congr fun r c => (foldP_app tp ct _ p r c).symm
        · rcases hm'.out.more q hq with h | h
          · exact hF1'.out q h
          · right; have := hf'.out.size; have := hf5'.out.size; omega
        · refine hf'.out.trans ((hf5'.out.mono (G := F1) fun _ _ h => h.elim).trans hm'.out.far fun q _ h => h) fun q _ h => hF1'.out q h
      case measure => simp only [intOf]; omega
    · have e : k = (placesL M side).length := by omega
      subst e
      rw [List.take_length] at hX
      go_wp2_with fail
      go_ret
      refine ⟨_, rfl, F1, hX, fun q hq => ?_, hf2'.out.trans hf fun q hq e => ?_⟩
      · rcases hF1 q hq with h | h
        · omega
        · have := hf2'.out.size; omega
      · have := hf2'.out.size
        rcases e with e | e <;> omega
end
end
end Go.Proofs.YtoaeeojnelmlnaaDoor
