/-
  What a range over a function keeps; the sequence of blocks.
-/
import Derived.Test.YtoaeeojnelmlnaaDoorQRangeOk
import Derived.BigFrameIn
namespace Go.Proofs.YtoaeeojnelmlnaaDoor
open Go.RowKit Go.Shelf
set_option linter.unusedVariables false
set_option linter.unusedSimpArgs false
theorem far_grown {w w' : World} (h : Far (fun _ => False) w w') : w.grownBy w' none := ⟨h.os, h.tape, h.output, h.size, fun k hk _ => h.block k hk id⟩
theorem KeepK.far {K : Nat → Prop} {A B C : World} (h : KeepK K A B) (hK : ∀ k, K k → k < B.heap.size) (hf : Far (fun _ => False) B C) : KeepK K A C := fun k hk => (hf.block k (hK k hk) id).trans (h k hk)
theorem keepK_lt {K : Nat → Prop} {A B : World} (h : KeepK K A B) {k : Nat} (hk : K k) (hl : k < A.heap.size) : k < B.heap.size := by
  have := h k hk
  rw [Array.getElem?_eq_getElem hl] at this
  exact (Array.getElem?_eq_some_iff.1 this).1
theorem keepK_put {K : Nat → Prop} {B : Nat} (hK : ∀ k, K k → k < B) (W : World) (l : Nat) (o o' : Obj) (hl : B ≤ l) : KeepK K W (W.putObj l o') := fun k hk => World.putObj_heap_other fun e => by have := hK k hk; omega
theorem round_bool {e : Ending} {A B : Prop} (h : (e = .returned (.bool true) ∧ A) ∨ (e = .returned (.bool false) ∧ B)) : ∃ bv : Bool, e = .returned (.bool bv) ∧ ((bv = true ∧ A) ∨ (bv = false ∧ B)) :=
  h.elim (fun h => ⟨true, h.1, .inl ⟨rfl, h.2⟩⟩) (fun h => ⟨false, h.1, .inr ⟨rfl, h.2⟩⟩)
theorem putObj_size (W : World) (l : Nat) (o : Obj) : W.heap.size ≤ (W.putObj l o).heap.size := (grownBy_putObj' W l o).size
def KeepS (K : Nat → Prop) (A B : World) : Prop := KeepK K A B ∧ A.heap.size ≤ B.heap.size
theorem keepS_t {K : Nat → Prop} {A B C : World} (h : KeepS K A B) (k : KeepS K B C) : KeepS K A C := ⟨keepK_t h.1 k.1, Nat.le_trans h.2 k.2⟩
theorem keepS_put {K : Nat → Prop} {B : Nat} (hK : ∀ k, K k → k < B) (W : World) (l : Nat) (o o' : Obj) (hl : B ≤ l) : KeepS K W (W.putObj l o') := ⟨keepK_put hK W l o o' hl, (putObj_size W l o')⟩
theorem keepS_refl (K : Nat → Prop) (W : World) : KeepS K W W := ⟨fun _ _ => rfl, Nat.le_refl _⟩
theorem row_other {A C : World} {F : Nat → Prop} {base e size n : Nat} {v : Value} {xs : List Value} (h : A.ownsRow base e size v n xs) (hf : Far F A C) (hF : ∀ k, F k → ∃ o : Obj, A.heap[k]? = some o ∧ o.isCells = false) : C.ownsRow base e size v n xs :=
  row_same h fun k hk hk2 => hf.block k hk2 fun hfk => by
    obtain ⟨o, ho, hc⟩ := hF k hfk
    rcases h.2 with ⟨rfl, _⟩ | ⟨g', cap, cur, rfl, _, hg, _⟩
    · cases hk
    · have : g' = k := Option.some.inj hk
      subst this
      rw [ho] at hg
      cases hg
      cases hc
theorem grown_F {A C : World} {row : Option Nat} (hg : A.grownBy C row) : Far (fun k => row = some k) A C := (Far.refl _ A).grown hg fun k _ e => e
theorem bk_other {A C : World} {F : Nat → Prop} {k : Nat} {t : TypeId} {cs : Array Value} (h : Bk A k t cs) (hf : Far F A C) (hF : ∀ k, F k → ∃ o : Obj, A.heap[k]? = some o ∧ o.isCells = false) : Bk C k t cs :=
  h.far' hf fun e => by
    obtain ⟨o, ho, hc⟩ := hF k e
    rw [show A.heap[k]? = _ from h] at ho
    cases ho
    cases hc
/-- A whole leaf out of memory, in a walk with a fence. -/
theorem wpListIn_lf {F : Fence} {n : Nat} {ops : Array Oper} {rest : List Oper} {o : Oper} {a : Act} {w : World} {Q : Exit → Act → World → Prop} (hgd : Region.wanted o (yielded ops a.tmps) = true) (x : Operand) (ho : o.op = .load 97 x)
    (g k : Nat) (hx : a.eval x = .pointer (some ⟨g, k, none⟩)) {f : Nat → Nat} (hg : w.rangeAt g k (Rw f).toList)
    (h : wpListIn F n Tryd.prog ops Q rest (a.put o.dst (.agg (Rw f))) w) : wpListIn F n Tryd.prog ops Q (o :: rest) a w :=
  BigFrame.wpListIn_want hgd fun _ hK => by
    unfold Oper.wpIn
    refine ⟨?_, ?_⟩
    · simp [Oper.about, ho]
    · rw [Oper.semAt_plain F _ _ (by rw [ho]; intro c hc'; cases hc')]
      unfold execOp
      simp only [ho, hx, Instr.loadAt, Instr.sureAddr, Sem.run_bind, Sem.run_pure, Result.andThen_ok, rw_range hg]
      rw [Oper.uponIn_value]
      exact hK _ _ h
/-- What a round is handed: a place, and the block. -/
def bencs (M : Nat → Nat → Bool) (p : Nat × Nat) : Array Value := #[.agg #[.int .i64 (p.1 : Nat), .int .i64 (p.2 : Nat)], .agg (Rw (blk (sub M p.1 p.2)))]
def BOk (L : List (Nat × Nat)) (pre : List (Nat × Nat)) (p : Nat × Nat) (W : World) : Prop := pre ++ [p] = L.take (pre.length + 1) ∧ pre.length < L.length
set_option maxRecDepth 100000 in
set_option maxHeartbeats 4000000 in
theorem blocks_seq (n : Nat) (hn : 2 ≤ n) (h b : Nat) (v : Value) (M : Nat → Nat → Bool) (L : List (Nat × Nat)) (hL : L.length ≤ 65536) (w0 : World) (hX : Bk w0 h 112 #[v]) (hO : w0.ownsRow b 99 66 v L.length (srows M L).flatten) :
    SeqOk n Tryd.prog 121 #[.pointer (some ⟨h, 0, none⟩)] (bencs M) (BOk L) (KeepS fun k => k = h ∨ v.ownBlock = some k) (fun xs => xs = L) (fun _ => True) w0 := fun l J Jx W hW hJ hY h0 => by
  have hzs : ∀ w, (zeroValue 99).run Tryd.prog w = .ok (.agg (spt 0 0 fun _ => 0)) w := (zero_of_info spotZero).1
  have hXW : Bk W h 112 #[v] := hX.below hW hX.lt
  have hOW : W.ownsRow b 99 66 v L.length (srows M L).flatten := row_same hO fun k hk hlt => hW.block k hlt
  have HY := Lib.hid hY
  have HJ := Lib.hid hJ
  obtain ⟨ao, cap, rfl⟩ := q_form hO
  have p0 : W.cell? ⟨h, 0, none⟩ = some (.slice ao L.length cap) := hXW.cell 0
  have hXW' := Lib.hid hXW
  have hOW' := Lib.hid hOW
  clear hY hJ hX hO hXW hOW
  refine callsIn_of_wp Tryd.func121 rfl trivial (wpIn_wide.2 ?_) rfl
  simp only [Tryd.ntmps121, List.size_toArray, List.length_cons, List.length_nil, Nat.reduceAdd, Nat.reduceSub, Array.replicate_succ, Array.replicate_zero, List.push_toArray, List.append_toArray, List.nil_append, List.cons_append]
  have hn1 : 1 ≤ n := by omega
  go_wp2_with fail
  clear p0
  go_loopw [7] (fun iv wr => ∃ k : Nat, k ≤ L.length ∧ iv = .int .i64 (k : Nat) ∧ J (L.take k) wr ∧ KeepS (fun k => k = h ∨ (Value.slice ao L.length cap).ownBlock = some k) W wr) (fun iv _ => L.length - (intOf iv).toNat)
  case atStart => exact ⟨0, Nat.zero_le _, rfl, h0, fun _ _ => rfl, Nat.le_refl _⟩
  case round =>
    clear h0
    obtain ⟨k, hk, rfl, hJk, hKp⟩ := hrel
    by_cases hlt : k < L.length
    · have hp := List.getElem?_eq_getElem hlt
      obtain ⟨p, hpe⟩ : ∃ p, L[k] = p := ⟨_, rfl⟩
      rw [hpe] at hp
      have hoR := row_same hOW'.out fun q hq hl2 => hKp.1 q (.inr hq)
      have hbR := hXW'.out.keep hKp.1 (.inl rfl)
      obtain ⟨g, c2, hsv, _⟩ := hoR.form (by omega)
      cases hsv
      have hr : wr.rangeAt g (k * 66) (spt p.1 p.2 (blk (sub M p.1 p.2))).toList := own_range hoR (srows_even M _) (srows_get hp)
      have dk : (k : Int) < (L.length : Int) := by omega
      have hk' : k < 65536 := by omega
      have hJk' := Lib.hid hJk
      have hKp' := Lib.hid hKp
      have hgl := Lib.hid (hoR.lt)
      have hhl := Lib.hid hbR.lt
      obtain ⟨m, hm⟩ : ∃ m, L.length = m := ⟨_, rfl⟩
      have hm' := Lib.hid hm
      rw [hm] at dk hlt hk ⊢
      clear hoR hbR hJk hKp hpe hm
      go_upto_region 3 with (first | (refine wpList_sp rfl _ rfl _ _ rfl hr ?_) | (refine wpList_spst rfl _ _ rfl _ rfl rfl (Bk.new rfl) (spt_size _ _ _) ?_))
      rw [World.setRow_alloc_new]
      obtain ⟨wa, hwa⟩ : ∃ wa, wa = wr.alloc (.cells (spt p.1 p.2 (blk (sub M p.1 p.2))) 99) := ⟨_, rfl⟩
      have hfa : Far (fun _ => False) wr wa := hwa ▸ (Far.refl _ wr).alloc _
      have hb3 : SpB wa wr.heap.size (spt p.1 p.2 (blk (sub M p.1 p.2))) := hwa ▸ Bk.new rfl
      obtain ⟨x0, x1⟩ := SpB.at hb3
      have x2 := SpB.leaf hb3
      rw [← hwa]
      have hok : BOk L (L.take k) p wa := ⟨by rw [List.length_take, Nat.min_eq_left (by have := hm'.out; omega), List.take_add_one, hp]; rfl, by rw [List.length_take]; have := hm'.out; omega⟩
      obtain ⟨fn, tmps, assign, body, hy, hR⟩ := HY.out (L.take k) p wa (HJ.out _ _ _ none hJk'.out (far_grown hfa) (fun r e => by cases e)) hok
      have hnext : L.take k ++ [p] = L.take (k + 1) := by rw [List.take_add_one, hp]; rfl
      rw [hnext] at hR
      simp only [bencs] at hy
      have hfa' := Lib.hid hfa
      clear hwa hfa hb3 hr hok hnext
      refine (wpIn_wide (n := n)).1 ?_
      gi_wp2_with (first | (refine wpListIn_lf rfl _ rfl _ _ rfl x2 ?_) | (refine hR.mono ?_; rintro e W3 hc3; obtain ⟨bv, rfl, hc4⟩ := round_bool hc3; have hc5 := Lib.hid hc4; clear hc3 hc4))
      clear hy hR x0 x1 x2
      rcases hc5.out with ⟨rfl, hJ3, hk3⟩ | ⟨rfl, hJx3⟩
      · have hJ4 := Lib.hid hJ3
        have hK4 := Lib.hid (show KeepS (fun k => k = h ∨ (Value.slice (some ⟨g, 0, none⟩) L.length cap).ownBlock = some k) W W3 from by
          rw [hm'.out]
          refine ⟨fun q hq => ?_, Nat.le_trans hKp'.out.2 (Nat.le_trans hfa'.out.size hk3.2)⟩
          have hq' : q = h ∨ (Value.slice (some ⟨g, 0, none⟩) L.length cap).ownBlock = some q := by rw [hm'.out]; exact hq
          refine (hk3.1 q hq').trans ((hfa'.out.block q ?_ id).trans (hKp'.out.1 q hq'))
          rcases hq' with rfl | e
          · exact hhl.out
          · exact (hgl.out q e).2)
        clear hJ3 hk3
        go_wp2_with fail
        go_roundw
        case rel => exact ⟨k + 1, by omega, by simp, hJ4.out, hK4.out⟩
        case measure => simp only [intOf]; omega
      · have hJ4 := Lib.hid hJx3
        clear hJx3
        go_wp2_with fail
        refine bodyPost_ret (results_none rfl _ _ _) rfl ?_
        exact ⟨⟨_, rfl⟩, .inr ⟨_, hJ4.out⟩⟩
    · have e : k = L.length := by omega
      subst e
      rw [List.take_length] at hJk
      have hJ2 := Lib.hid hJk
      clear hJk
      go_wp2_with fail
      go_end0
      exact ⟨⟨_, rfl⟩, .inl ⟨_, rfl, hJ2.out⟩⟩
end Go.Proofs.YtoaeeojnelmlnaaDoor
