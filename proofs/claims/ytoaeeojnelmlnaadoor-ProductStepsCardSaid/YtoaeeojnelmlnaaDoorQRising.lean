/-
  rising: are the cells told rising, each once?
-/
import Derived.Test.YtoaeeojnelmlnaaDoorQLine
namespace Go.Proofs.YtoaeeojnelmlnaaDoor
open Go.RowKit Go.Shelf
set_option linter.unusedVariables false
set_option linter.unusedSimpArgs false
attribute [local go_sem] Oper.semAt_some
/-- The last cell's number, -1 where there is none. -/
def lastR (s : Nat) (l : List (Nat × Nat)) : Int := match l.getLast? with | none => -1 | some p => (p.1 * s + p.2 : Nat)
theorem lastR_app (s : Nat) (l : List (Nat × Nat)) (p : Nat × Nat) : lastR s (l ++ [p]) = (p.1 * s + p.2 : Nat) := by simp [lastR]
theorem lastR_lt {s : Nat} {L pre : List (Nat × Nat)} {p : Nat × Nat} (hr : L.Pairwise lexLt) (h2 : ∀ x ∈ L, x.2 < s) (h : pre ++ [p] <+: L) : lastR s pre < (p.1 * s + p.2 : Nat) := by
  unfold lastR
  cases e : pre.getLast? with
  | none => show (-1 : Int) < _; omega
  | some q =>
    show ((q.1 * s + q.2 : Nat) : Int) < _
    obtain ⟨m, rfl⟩ := List.getLast?_eq_some_iff.1 e
    have hq := (List.pairwise_append.1 (hr.sublist h.sublist)).2.2 q (by simp) p (by simp)
    have hb := h2 q (h.subset (by simp))
    rcases hq with h1 | ⟨h1, h3⟩
    · have := Nat.mul_le_mul_right s (Nat.succ_le_of_lt h1)
      rw [Nat.succ_mul] at this
      omega
    · rw [h1]; omega
structure RI (W0 : World) (h4 h6 h7 h8 s : Nat) (pre : List (Nat × Nat)) (V : World) : Prop where
  b4 : Bk V h4 3 #[.int .i64 (s : Nat)]
  b6 : Bk V h6 4 #[.bool false]
  b7 : Bk V h7 3 #[.int .i64 (pre.length : Nat)]
  b8 : Bk V h8 3 #[.int .i64 (lastR s pre)]
  far : Far (fun k => k = h7 ∨ k = h8) W0 V
theorem RI.go {W0 A B : World} {h4 h6 h7 h8 s : Nat} {pre : List (Nat × Nat)} {row : Option Nat} (h : RI W0 h4 h6 h7 h8 s pre A) (hg : A.grownBy B row) (hr : ∀ r, row = some r → W0.heap.size ≤ r ∧ ∃ o : Obj, A.heap[r]? = some o ∧ o.isCells = false) : RI W0 h4 h6 h7 h8 s pre B :=
  ⟨bk_other h.b4 (grown_F hg) fun k e => (hr k e).2, bk_other h.b6 (grown_F hg) fun k e => (hr k e).2, bk_other h.b7 (grown_F hg) fun k e => (hr k e).2, bk_other h.b8 (grown_F hg) fun k e => (hr k e).2, far_own h.far hg hr⟩
section
variable {w w' : World} {B side : Nat} {F : Nat → Prop} {M : Nat → Nat → Bool}
set_option maxHeartbeats 8000000
set_option maxRecDepth 100000
theorem rising_any (h : Mx w B F side M) (hT : Tab w) : Calls Tryd.prog 32 #[.pointer (some ⟨B, 0, none⟩), .int .i64 (side : Nat), .int .i64 (numM M : Nat)] w fun e w' => e = .returned (.bool true) ∧ Far (fun _ => False) w w' := by
  have hwin := h.within
  obtain ⟨s1, s2⟩ := h.sides
  have hle := numM_le M
  have hlen := cellsL_len s2 hwin
  have hcan := cells_canon s2 hwin
  obtain ⟨h4, hh4⟩ : ∃ b, b = w.heap.size := ⟨_, rfl⟩
  obtain ⟨W1, hW1⟩ : ∃ V, V = (w.alloc (.cells #[.int .i64 (side : Nat)] 3)).alloc (.cells #[.bool false] 4) := ⟨_, rfl⟩
  obtain ⟨h6, hh6⟩ : ∃ b, b = h4 + 1 := ⟨_, rfl⟩
  obtain ⟨h7, hh7⟩ : ∃ b, b = h4 + 2 := ⟨_, rfl⟩
  obtain ⟨h8, hh8⟩ : ∃ b, b = h4 + 3 := ⟨_, rfl⟩
  obtain ⟨W2, hW2⟩ : ∃ V, V = (W1.alloc (.cells #[.int .i64 0] 3)).alloc (.cells #[.int .i64 (-1)] 3) := ⟨_, rfl⟩
  have hf2 : Far (fun _ => False) w W2 := hW2 ▸ ((hW1 ▸ ((Far.refl _ w).alloc _).alloc _ : Far (fun _ => False) w W1).alloc _).alloc _
  have b4 : Bk W2 h4 3 #[.int .i64 (side : Nat)] := hW2 ▸ ((hW1 ▸ (Bk.new hh4).alloc _ : Bk W1 h4 _ _).alloc _).alloc _
  have z1 : W1.heap.size = h7 := by rw [hW1]; simp [hh7, hh4]
  have b6 : Bk W2 h6 4 #[.bool false] := hW2 ▸ ((hW1 ▸ Bk.new (by simp [hh6, hh4]) : Bk W1 h6 _ _).alloc _).alloc _
  have b7 : Bk W2 h7 3 #[.int .i64 0] := hW2 ▸ (Bk.new z1.symm).alloc _
  have b8 : Bk W2 h8 3 #[.int .i64 (-1)] := hW2 ▸ Bk.new (by simp [z1, hh7, hh8])
  have CE := qCells_any (h.still hf2)
  have FN := fn_nil2
  have hh4' := Lib.hid hh4
  have hW1' := Lib.hid hW1
  have hh6' := Lib.hid hh6
  have hh7' := Lib.hid hh7
  have hh8' := Lib.hid hh8
  have hW2' := Lib.hid hW2
  have hf2' := Lib.hid hf2
  have b4' := Lib.hid b4
  have b6' := Lib.hid b6
  have b7' := Lib.hid b7
  have b8' := Lib.hid b8
  have z1' := Lib.hid z1
  have hlen' := Lib.hid hlen
  have hcan' := Lib.hid hcan
  have hwin' := Lib.hid hwin
  have e6 : h4 + 1 = h6 := hh6.symm
  have e8 : h7 + 1 = h8 := by omega
  obtain ⟨nM, hnM⟩ : ∃ n, numM M = n := ⟨_, rfl⟩
  rw [hnM] at hlen' hle ⊢
  have e6' := Lib.hid e6
  have e8' := Lib.hid e8
  clear h hwin hlen hcan hh4 hW1 hh6 hh7 hh8 hW2 hf2 b4 b6 b7 b8 z1 e6 e8 hnM
  refine (callsIn_wide (n := 10)).1 (callsIn_of_wp_marks Tryd.func32 rfl trivial (wpIn_wide.2 ?_) rfl)
  simp only [Tryd.ntmps32, List.size_toArray, List.length_cons, List.length_nil, Nat.reduceAdd, Nat.reduceSub, Array.replicate_succ, Array.replicate_zero, List.push_toArray, List.append_toArray, List.nil_append, List.cons_append]
  go_upto_region 1 with fail
  rw [← hW1'.out, ← hh4'.out, e6'.out]
  go_upto_region 2 with fail
  rw [← hW2'.out, z1'.out, e8'.out]
  go_wp2_with fail
  refine CE.mono ?_
  rintro e W0 ⟨hb, v, rfl, hbX, hbO, hbz, hf7⟩
  have b40 := b4'.out.far' hf7 id
  have b60 := b6'.out.far' hf7 id
  have b70 := b7'.out.far' hf7 id
  have b80 := b8'.out.far' hf7 id
  have hI0 : RI W0 h4 h6 h7 h8 side [] W0 := ⟨b40, b60, b70, b80, Far.refl _ _⟩
  have hI0' := Lib.hid hI0
  have hfw0 := Lib.hid (hf2'.out.then hf7)
  have hTw0 := Lib.hid (hT.still hfw0.out)
  have hbX' := Lib.hid hbX
  have hbO' := Lib.hid hbO
  have hd0 := Lib.hid (show h4 < W0.heap.size ∧ h6 < W0.heap.size ∧ h7 < W0.heap.size ∧ h8 < W0.heap.size from ⟨b40.lt, b60.lt, b70.lt, b80.lt⟩)
  clear CE hbX hbO hbz hf7 b40 b60 b70 b80 hI0
  go_wp2_with fail
  refine (wpIn_wide (n := 10)).1 ?_
  obtain ⟨aov, capv, rfl⟩ := q_form hbO'.out
  obtain ⟨L, hL⟩ : ∃ L, placesL M side = L := ⟨_, rfl⟩
  rw [hL] at hbO' hbX' hcan'
  have hLf : L.length ≤ 256 := by have := placesL_few M s2; rw [hL] at this; exact this
  have hLp : ∀ p ∈ L, p.1 < 16 ∧ p.2 < 16 := fun p hp => by
    rw [← hL] at hp
    obtain ⟨h1, h2, _⟩ := mem_placesL.1 hp
    have := lns_le s2
    omega
  clear hL FN
  refine name_frame fun T hTT => ?_
  refine range_ok (by decide) (by rw [← hTT]; rfl) (enters_of Tryd.func90 (by kernel_rfl) rfl) (qcells_seq (10 - 1) (by decide) hb W2.heap.size _ M L hLf hLp W0 hbX'.out hbO'.out hTw0.out) KT.trans (fun V l o o' hl h ho => KT.put (B := W0.heap.size) V l o o' hTw0.out.lt hl h ho) (fun _ => rfl)
    (fun pre V => RI W0 h4 h6 h7 h8 side pre V) (fun _ _ _ => False) ?own ?ownx hI0'.out
    (fun pre y a' V => ((pre ++ [y]) <+: cellsF M L.length L) ∧ RI W0 h4 h6 h7 h8 side pre V ∧ a' = { tmps := ((((T.setIfInBounds 17 (.int .i64 (y.1 : Nat))).setIfInBounds 18 (.int .i64 (y.2 : Nat))).setIfInBounds 10 (.int .i64 (y.1 : Nat))).setIfInBounds 11 (.int .i64 (y.2 : Nat))), defers := [] }) ?hAx ?assign ?body ?done ?stop
  case own => exact fun u A B row h hg hr => RI.go h hg hr
  case ownx => exact fun c u A B row h _ _ => h
  case hAx => exact fun pre y a' u A B row ⟨h1, h2, h3⟩ hg hr => ⟨h1, h2.go hg hr, h3⟩
  case stop => exact fun D c pre V _ _ h _ => h.elim
  case assign =>
    intro l pre y V KK hI hok hK
    have hK' := hK _ V (KeepsFrom.refl _ _) (KT.refl _) hI ⟨hok, hI, rfl⟩
    subst hTT
    simp only [encP, List.zip_toArray, List.zip_cons_cons, List.zip_nil_right, List.foldl_toArray', List.foldl_cons, List.foldl_nil, List.setIfInBounds_toArray, List.set_cons_succ, List.set_cons_zero] at hK' ⊢
    gi_wp2
    exact hK'
  case body =>
    rintro l pre y a' V hl _ ⟨hpre, hI, rfl⟩
    have hm : M y.1 y.2 = true := told_there (hpre.subset (by simp))
    obtain ⟨hy1, hy2⟩ := hwin'.out _ _ hm
    have hlt := lastR_lt (s := side) (by rw [hcan'.out]; exact cellsK_rise M side side) (fun x hx => (hwin'.out _ _ (told_there hx)).2) hpre
    have hplen := hpre.length_le
    rw [hcan'.out, hlen'.out, List.length_append, List.length_singleton] at hplen
    have c4 : V.cell? ⟨h4, 0, none⟩ = some (.int .i64 (side : Nat)) := hI.b4.cell 0
    have c7 : V.cell? ⟨h7, 0, none⟩ = some (.int .i64 (pre.length : Nat)) := hI.b7.cell 0
    have c8 : V.cell? ⟨h8, 0, none⟩ = some (.int .i64 (lastR side pre)) := hI.b8.cell 0
    have f7 := hI.b7.free 0
    have f8 := hI.b8.free 0
    have n78 : h7 ≠ h8 := by have := e8'.out; omega
    have i1 : (y.1 : Int) < (side : Int) := by omega
    have i2 : (y.2 : Int) < (side : Int) := by omega
    have hmul : (y.1 : Int) * (side : Int) = ((y.1 * side : Nat) : Int) := by rw [Int.natCast_mul]
    have hmb : y.1 * side ≤ 1048576 := by
      have := Nat.mul_le_mul (show y.1 ≤ 1024 by omega) s2
      omega
    obtain ⟨m, hm1⟩ : ∃ m, m = y.1 * side := ⟨_, rfl⟩
    rw [← hm1] at hmul hmb hlt
    obtain ⟨last, hlast⟩ : ∃ x, lastR side pre = x := ⟨_, rfl⟩
    rw [hlast] at c8 hlt
    have hnle : ¬ ((m : Int) + (y.2 : Int) ≤ last) := by omega
    have hI' := Lib.hid hI
    have hm1' := Lib.hid hm1
    subst hTT
    simp only [List.setIfInBounds_toArray, List.set_cons_succ, List.set_cons_zero]
    clear hpre hm hI hm1 hlast hlt
    gi_wp2
    have hI := hI'.out
    obtain ⟨V', hV'⟩ : ∃ V', V' = (V.setCell ⟨h8, 0, none⟩ (.int .i64 ((m : Int) + (y.2 : Int)))).setCell ⟨h7, 0, none⟩ (.int .i64 ((pre.length : Int) + 1)) := ⟨_, rfl⟩
    rw [← hV']
    have hfa : Far (fun k => k = h7 ∨ k = h8) V V' := hV' ▸ ((Far.refl _ V).set ⟨h8, 0, none⟩ _ fun _ => .inr rfl).set ⟨h7, 0, none⟩ _ fun _ => .inl rfl
    have hd := hd0.out
    have hTl := hT.lt
    have hz4 := hh4'.out
    have hz7 := hh7'.out
    have hz8 := hh8'.out
    have hz6 := hh6'.out
    refine ⟨keeps_far hfa fun k hk => ?_, ⟨hfa.size, fun k hk => hfa.block k ?_ ?_⟩, ?_⟩
    · rcases hk with rfl | rfl
      · exact ⟨_, _, hI.b7⟩
      · exact ⟨_, _, hI.b8⟩
    · rcases hk with rfl | ⟨cs, t, hb', _⟩
      · have := hI.far.size; have := hfw0.out.size; omega
      · exact hb'.lt
    · intro e
      rcases hk with rfl | ⟨cs, t, hb', ht⟩
      · omega
      · rcases e with rfl | rfl
        · have := bk_type hb' hI.b7; subst this; revert ht; decide
        · have := bk_type hb' hI.b8; subst this; revert ht; decide
    · refine ⟨hI.b4.far' hfa (by omega), hI.b6.far' hfa (by omega), ?_, ?_, hI.far.trans hfa fun _ _ h => h⟩
      · have := ((hI.b7.far (p := ⟨h8, 0, none⟩) (by show h7 ≠ h8; omega) (.int .i64 ((m : Int) + (y.2 : Int)))).set 0 (.int .i64 ((pre.length : Int) + 1)))
        rw [← hV'] at this
        rw [List.length_append, List.length_singleton, Int.natCast_add]
        exact this
      · have := (hI.b8.set 0 (.int .i64 ((m : Int) + (y.2 : Int)))).far (p := ⟨h7, 0, none⟩) (by show h8 ≠ h7; omega) (.int .i64 ((pre.length : Int) + 1))
        rw [← hV'] at this
        rw [lastR_app, Int.natCast_add, ← hm1'.out]
        exact this
  case done =>
    rintro D xs V hD rfl hI hK
    have c7 : V.cell? ⟨h7, 0, none⟩ = some (.int .i64 (nM : Nat)) := by have := hI.b7.cell 0; rw [hcan'.out, hlen'.out] at this; exact this
    have g0 : V.cell? ⟨h6, 0, none⟩ = some (.bool false) := hI.b6.cell 0
    have g1 := hI.b6.free 0
    have hd := hd0.out
    have hDn : D ≠ h6 := by omega
    have hKS := Lib.hid ((heap_setCell_other V ⟨h6, 0, none⟩ D (.bool true) hDn).trans hK)
    have R1 := Lib.hid (show Bk ((V.setCell ⟨h6, 0, none⟩ (.bool true)).putObj D (.deferred none)) h6 4 #[.bool true] from (World.putObj_heap_other (fun e => hDn e.symm)).trans (hI.b6.set 0 (.bool true)))
    have hZ := Lib.hid (show Far (fun k => w.heap.size ≤ k) w ((V.setCell ⟨h6, 0, none⟩ (.bool true)).putObj D (.deferred none)) from
      (((hfw0.out.mono (G := fun k => w.heap.size ≤ k) fun _ _ h => h.elim).trans (G := fun k => w.heap.size ≤ k) (hI.far.mono fun k _ e => by have := hh4'.out; have := hh7'.out; have := hh8'.out; omega) fun _ _ h => h).set ⟨h6, 0, none⟩ (.bool true) (fun _ => by have := hh4'.out; have := hh6'.out; show w.heap.size ≤ h6; omega)).grown (grownBy_putObj' _ D (.deferred none)) (fun k hk e => by cases e; have := hfw0.out.size; omega))
    subst hTT
    clear hI hK
    go_wp2_with fail
    refine ⟨by simp, .inl ⟨D, _, rfl, run_takeDeferred hKS.out, ?_⟩⟩
    refine ⟨.bool true, ?_, rfl, hZ.out.mono fun k hk h => by omega⟩
    have hc := R1.out.cell 0
    simp [results, Tryd.f32, go_sem, hc]
end
end Go.Proofs.YtoaeeojnelmlnaaDoor
