/-
  What the sequence of places hands out: the members, rising.
-/
import Derived.Test.YteojbnkjphghkaaDoorPl15
import Derived.Test.YteojbnkjphghkaaDoorRangeOk
namespace Go.Proofs.YteojbnkjphghkaaDoor
open Go.RowKit Go.Shelf
set_option linter.unusedVariables false
set_option linter.unusedSimpArgs false
theorem far_grown {w w' : World} (h : Far (fun _ => False) w w') : w.grownBy w' none := ⟨h.os, h.tape, h.output, h.size, fun k hk _ => h.block k hk id⟩
theorem KeepK.far {K : Nat → Prop} {A B C : World} (h : KeepK K A B) (hK : ∀ k, K k → k < B.heap.size) (hf : Far (fun _ => False) B C) : KeepK K A C := fun k hk => (hf.block k (hK k hk) id).trans (h k hk)
theorem keepK_lt {K : Nat → Prop} {A B : World} (h : KeepK K A B) {k : Nat} (hk : K k) (hl : k < A.heap.size) : k < B.heap.size := by
  have := h k hk
  rw [Array.getElem?_eq_getElem hl] at this
  exact (Array.getElem?_eq_some_iff.1 this).1
theorem keepK_put {K : Nat → Prop} {B : Nat} (hK : ∀ k, K k → k < B) (W : World) (l : Nat) (o o' : Obj) (hl : B ≤ l) : KeepK K W (W.putObj l o') := fun k hk => World.putObj_heap_other fun e => by have := hK k hk; omega
theorem Src.keep {K : Nat → Prop} {A B : World} {sz m : Nat} {v : Value} {xs : List Value} (h : Src A sz v m xs) (hk : KeepK K A B) (hK : ∀ a n c, v = .slice (some a) n c → 0 < xs.length → K a.block) : Src B sz v m xs := by
  obtain ⟨h1, h2 | ⟨a, c, rfl, h2⟩⟩ := h
  · exact ⟨h1, .inl h2⟩
  · refine ⟨h1, .inr ⟨a, c, rfl, fun j u hu => ?_⟩⟩
    obtain ⟨hb, hc⟩ := h2 j u hu
    have h0 : 0 < xs.length := by have := (List.getElem?_eq_some_iff.1 hu).1; omega
    exact ⟨keepK_lt hk (hK _ _ _ rfl h0) hb, (cell_eq (by rw [add_block]; exact hk _ (hK _ _ _ rfl h0))).trans hc⟩
theorem round_bool {e : Ending} {A B : Prop} (h : (e = .returned (.bool true) ∧ A) ∨ (e = .returned (.bool false) ∧ B)) : ∃ bv : Bool, e = .returned (.bool bv) ∧ ((bv = true ∧ A) ∨ (bv = false ∧ B)) :=
  h.elim (fun h => ⟨true, h.1, .inl ⟨rfl, h.2⟩⟩) (fun h => ⟨false, h.1, .inr ⟨rfl, h.2⟩⟩)
theorem putObj_size (W : World) (l : Nat) (o : Obj) : W.heap.size ≤ (W.putObj l o).heap.size := (grownBy_putObj' W l o).size
def KeepS (K : Nat → Prop) (A B : World) : Prop := KeepK K A B ∧ A.heap.size ≤ B.heap.size
theorem keepS_t {K : Nat → Prop} {A B C : World} (h : KeepS K A B) (k : KeepS K B C) : KeepS K A C := ⟨keepK_t h.1 k.1, Nat.le_trans h.2 k.2⟩
theorem keepS_put {K : Nat → Prop} {B : Nat} (hK : ∀ k, K k → k < B) (W : World) (l : Nat) (o o' : Obj) (hl : B ≤ l) : KeepS K W (W.putObj l o') := ⟨keepK_put hK W l o o' hl, (putObj_size W l o')⟩
def pencs (q : Nat) : Array Value := #[.int .i64 (q : Int)]
/-- What is handed out is a member. -/
def POk (p : Nat × Nat) (pre : List Nat) (x : Nat) (W : World) : Prop := memP p x = true ∧ x < 128
def TabK (k : Nat) : Prop := k = 0
theorem Tab.keep {A B : World} (h : Tab A) (hk : KeepK TabK A B) : Tab B := fun j hj => (cell_eq (hk 0 rfl)).trans (h j hj)
theorem Tab.lt {A : World} (h : Tab A) : 0 < A.heap.size := block_lt_of_cell (h 0 (by decide))
set_option maxRecDepth 100000 in
set_option maxHeartbeats 4000000 in
theorem all_seq (n : Nat) (hn : 2 ≤ n) (h : Nat) (p : Nat × Nat) (hp : Wd p) (w0 : World) (hX : Bk w0 h 79 #[.int .u64 (p.1 : Int), .int .u64 (p.2 : Int)]) (hT : Tab w0) :
    SeqOk n Tryd.prog 51 #[.pointer (some ⟨h, 0, none⟩)] pencs (POk p) (KeepS TabK) (fun xs => Upto p.1 p.2 128 xs) (fun _ => True) w0 := fun L J Jx W hW hJ hYd h0 => by
  have hXW : Bk W h 79 #[.int .u64 (p.1 : Int), .int .u64 (p.2 : Int)] := hX.below hW hX.lt
  have hTW : Tab W := hT.stays hW
  have HY := Lib.hid hYd
  have HJ := Lib.hid hJ
  have b0 : W.cell? ⟨h, 0, none⟩ = some (.int .u64 (p.1 : Int)) := hXW.cell 0
  have b1 : W.cell? ⟨h, 1, none⟩ = some (.int .u64 (p.2 : Int)) := hXW.cell 1
  obtain ⟨Y0, Y1⟩ := p
  obtain ⟨hx0, hx1⟩ := hp
  dsimp only at b0 b1 hx0 hx1 ⊢
  have i0 : ∀ w, (Instr.index 79 (.agg #[.int .u64 (Y0 : Int), .int .u64 (Y1 : Int)]) (.int .i64 0)).run Tryd.prog w = .ok (.int .u64 (Y0 : Int)) w := fun _ => by kernel_rfl
  have i1 : ∀ w, (Instr.index 79 (.agg #[.int .u64 (Y0 : Int), .int .u64 (Y1 : Int)]) (.int .i64 1)).run Tryd.prog w = .ok (.int .u64 (Y1 : Int)) w := fun _ => by kernel_rfl
  have hTW' := Lib.hid hTW
  clear hYd hJ hX hXW hT hTW
  refine callsIn_of_wp Tryd.func51 rfl trivial (wpIn_wide.2 ?_) rfl
  simp only [Tryd.ntmps51, List.size_toArray, List.length_cons, List.length_nil, Nat.reduceAdd, Nat.reduceSub, Array.replicate_succ, Array.replicate_zero, List.push_toArray, List.append_toArray, List.nil_append, List.cons_append]
  have hn1 : 1 ≤ n := by omega
  go_wp2_with fail
  clear b0 b1
  go_loopw [6] (fun iv wr => ∃ (k : Nat) (l : List Nat), iv = .int .i64 k ∧ k ≤ 2 ∧ Upto Y0 Y1 (64 * k) l ∧ J l wr ∧ Tab wr ∧ W.heap.size ≤ wr.heap.size) (fun iv _ => 2 - (intOf iv).toNat)
  case atStart => exact ⟨0, [], rfl, by omega, upto_nil _ _, h0, hTW'.out, Nat.le_refl _⟩
  case round =>
    clear h0
    obtain ⟨k, l, rfl, hk, hU, hJl, hTr, hsz⟩ := hrel
    rcases (show k = 0 ∨ k = 1 ∨ k = 2 by omega) with rfl | rfl | rfl
    · rw [show ((0 : Nat) : Int) = (0 : Int) from rfl]
      have hR := rest_first Y0 Y1 0 (by omega) hx0 hx1
      rw [if_pos rfl] at hR
      have hU' := Lib.hid hU
      have hR' := Lib.hid hR
      have hJ' := Lib.hid hJl
      have hT' := Lib.hid hTr
      clear hU hR hJl hTr
      obtain ⟨wo, hwo⟩ : ∃ wo, wo = wr := ⟨_, rfl⟩
      rw [← hwo] at hJ' hT' hsz ⊢
      clear hwo
      go_wp2_with fail
      go_loopw [4] (fun xv wr => ∃ (b x : Nat) (l : List Nat), xv = .int .u64 x ∧ Upto Y0 Y1 b l ∧ Rest Y0 Y1 0 b x ∧ J l wr ∧ Tab wr ∧ W.heap.size ≤ wr.heap.size) (fun xv _ => (intOf xv).toNat)
      case atStart => exact ⟨64 * 0, Y0, l, rfl, hU'.out, hR'.out, hJ'.out, hT'.out, hsz⟩
      case round =>
        clear hU' hR' hJ' hT' hsz
        obtain ⟨b, x, l, rfl, hU, hR, hJl, hTr, hsz⟩ := hrel
        by_cases hx : x = 0
        · subst hx
          have hU' := Lib.hid (rest_last hU hR)
          have hJ' := Lib.hid hJl
          have hT' := Lib.hid hTr
          clear hU hR hJl hTr
          go_wp2_with fail
          go_roundw
          case rel => exact ⟨0 + 1, l, by rfl, by omega, hU'.out, hJ'.out, hT'.out, hsz⟩
          case measure => simp [intOf]
        · have hne : ((x : Int) != 0) = true := by simp; omega
          have hxl := hR.2.1
          obtain ⟨b2, hU2, hR2⟩ := rest_next hU hR hx
          have hX : bits .and .u64 (x : Int) ((x : Int) - 1) = ((x &&& (x - 1) : Nat) : Int) := by
            rw [show ((x : Int) - 1) = ((x - 1 : Nat) : Int) by omega, bits_and_u64_nat _ _ hxl (by omega)]
          have hxd : x &&& (x - 1) < x := Nat.lt_of_le_of_lt Nat.and_le_right (by omega)
          have TZ : CallsIn Fence.wide (n - 1) Tryd.prog 52 #[.int .u64 x] wr _ := callsIn_wide.2 (tz_any x wr hxl hx hTr)
          obtain ⟨hc64, hct, _⟩ := low_facts x hxl hx
          have hmem : POk (Y0, Y1) l (64 * 0 + Lib.ctz 64 x) wr := ⟨((hR.2.2 _ hc64).1 hct).1, by omega⟩
          obtain ⟨fn, tmps, assign, body, hy, hRd⟩ := HY.out l (64 * 0 + Lib.ctz 64 x) wr hJl hmem
          have hxe := Lib.hid (show x ≠ 0 ∧ x < 18446744073709551616 from ⟨hx, hxl⟩)
          have hU' := Lib.hid hU2
          have hR' := Lib.hid hR2
          have hT' := Lib.hid hTr
          clear hU2 hR2 hU hR hJl hTr hct hmem
          generalize Lib.ctz 64 x = q at *
          generalize x &&& (x - 1) = x' at *
          simp only [pencs] at hy
          rw [show ((64 * 0 + q : Nat) : Int) = (q : Int) by omega] at hy
          go_upto_region 5 with fail
          refine (wpIn_wide (n := n)).1 ?_
          gi_wp2_with (first | (refine ⟨trivial, ?_⟩; refine TZ.mono ?_; rintro e w2 ⟨rfl, hw2⟩; subst hw2) | (refine hRd.mono ?_; rintro e W3 hc3; obtain ⟨bv, rfl, hc4⟩ := round_bool hc3; have hc5 := Lib.hid hc4; clear hc3 hc4))
          clear hy hRd TZ
          rcases hc5.out with ⟨rfl, hJ3, hk3⟩ | ⟨rfl, hJx3⟩
          · have hT4 := Lib.hid (hT'.out.keep hk3.1)
            have hz4 : W.heap.size ≤ W3.heap.size := Nat.le_trans hsz hk3.2
            have hJ4 := Lib.hid hJ3
            clear hJ3 hk3
            go_wp2_with fail
            go_roundw
            case rel => exact ⟨b2, x', _, rfl, hU'.out, hR'.out, hJ4.out, hT4.out, hz4⟩
            case measure => simp [intOf]; omega
          · have hJ4 := Lib.hid hJx3
            clear hJx3
            go_wp2_with fail
            refine bodyPost_ret (results_none rfl _ _ _) rfl ?_
            exact ⟨⟨_, rfl⟩, .inr ⟨_, hJ4.out⟩⟩
    · rw [show ((1 : Nat) : Int) = (1 : Int) from rfl]
      have hR := rest_first Y0 Y1 1 (by omega) hx0 hx1
      rw [if_neg (by decide)] at hR
      have hU' := Lib.hid hU
      have hR' := Lib.hid hR
      have hJ' := Lib.hid hJl
      have hT' := Lib.hid hTr
      clear hU hR hJl hTr
      obtain ⟨wo, hwo⟩ : ∃ wo, wo = wr := ⟨_, rfl⟩
      rw [← hwo] at hJ' hT' hsz ⊢
      clear hwo
      go_wp2_with fail
      go_loopw [4] (fun xv wr => ∃ (b x : Nat) (l : List Nat), xv = .int .u64 x ∧ Upto Y0 Y1 b l ∧ Rest Y0 Y1 1 b x ∧ J l wr ∧ Tab wr ∧ W.heap.size ≤ wr.heap.size) (fun xv _ => (intOf xv).toNat)
      case atStart => exact ⟨64 * 1, Y1, l, rfl, hU'.out, hR'.out, hJ'.out, hT'.out, hsz⟩
      case round =>
        clear hU' hR' hJ' hT' hsz
        obtain ⟨b, x, l, rfl, hU, hR, hJl, hTr, hsz⟩ := hrel
        by_cases hx : x = 0
        · subst hx
          have hU' := Lib.hid (rest_last hU hR)
          have hJ' := Lib.hid hJl
          have hT' := Lib.hid hTr
          clear hU hR hJl hTr
          go_wp2_with fail
          go_roundw
          case rel => exact ⟨1 + 1, l, by rfl, by omega, hU'.out, hJ'.out, hT'.out, hsz⟩
          case measure => simp [intOf]
        · have hne : ((x : Int) != 0) = true := by simp; omega
          have hxl := hR.2.1
          obtain ⟨b2, hU2, hR2⟩ := rest_next hU hR hx
          have hX : bits .and .u64 (x : Int) ((x : Int) - 1) = ((x &&& (x - 1) : Nat) : Int) := by
            rw [show ((x : Int) - 1) = ((x - 1 : Nat) : Int) by omega, bits_and_u64_nat _ _ hxl (by omega)]
          have hxd : x &&& (x - 1) < x := Nat.lt_of_le_of_lt Nat.and_le_right (by omega)
          have TZ : CallsIn Fence.wide (n - 1) Tryd.prog 52 #[.int .u64 x] wr _ := callsIn_wide.2 (tz_any x wr hxl hx hTr)
          obtain ⟨hc64, hct, _⟩ := low_facts x hxl hx
          have hmem : POk (Y0, Y1) l (64 * 1 + Lib.ctz 64 x) wr := ⟨((hR.2.2 _ hc64).1 hct).1, by omega⟩
          obtain ⟨fn, tmps, assign, body, hy, hRd⟩ := HY.out l (64 * 1 + Lib.ctz 64 x) wr hJl hmem
          have hxe := Lib.hid (show x ≠ 0 ∧ x < 18446744073709551616 from ⟨hx, hxl⟩)
          have hU' := Lib.hid hU2
          have hR' := Lib.hid hR2
          have hT' := Lib.hid hTr
          clear hU2 hR2 hU hR hJl hTr hct hmem
          generalize Lib.ctz 64 x = q at *
          generalize x &&& (x - 1) = x' at *
          simp only [pencs] at hy
          rw [show ((64 * 1 + q : Nat) : Int) = 64 + (q : Int) by omega] at hy
          go_upto_region 5 with fail
          refine (wpIn_wide (n := n)).1 ?_
          gi_wp2_with (first | (refine ⟨trivial, ?_⟩; refine TZ.mono ?_; rintro e w2 ⟨rfl, hw2⟩; subst hw2) | (refine hRd.mono ?_; rintro e W3 hc3; obtain ⟨bv, rfl, hc4⟩ := round_bool hc3; have hc5 := Lib.hid hc4; clear hc3 hc4))
          clear hy hRd TZ
          rcases hc5.out with ⟨rfl, hJ3, hk3⟩ | ⟨rfl, hJx3⟩
          · have hT4 := Lib.hid (hT'.out.keep hk3.1)
            have hz4 : W.heap.size ≤ W3.heap.size := Nat.le_trans hsz hk3.2
            have hJ4 := Lib.hid hJ3
            clear hJ3 hk3
            go_wp2_with fail
            go_roundw
            case rel => exact ⟨b2, x', _, rfl, hU'.out, hR'.out, hJ4.out, hT4.out, hz4⟩
            case measure => simp [intOf]; omega
          · have hJ4 := Lib.hid hJx3
            clear hJx3
            go_wp2_with fail
            refine bodyPost_ret (results_none rfl _ _ _) rfl ?_
            exact ⟨⟨_, rfl⟩, .inr ⟨_, hJ4.out⟩⟩
    · rw [show ((2 : Nat) : Int) = (2 : Int) from rfl]
      have hU' := Lib.hid hU
      have hJ' := Lib.hid hJl
      clear hU hJl hTr
      go_wp2_with fail
      go_end0
      exact ⟨⟨_, rfl⟩, .inl ⟨_, hU'.out, hJ'.out⟩⟩
end Go.Proofs.YteojbnkjphghkaaDoor
