/-
  QuadTurned walked.
-/
import Derived.Test.YtoaeeojnelmlnaaDoorQCellsM
import Derived.StillTailTactics
namespace Go.Proofs.YtoaeeojnelmlnaaDoor
open Go.RowKit Go.Shelf
set_option linter.unusedVariables false
set_option linter.unusedSimpArgs false
/-! ### What is told is there -/
def OfS (M : Nat → Nat → Bool) (S : List (Nat × Nat)) (y : Nat × Nat) : Prop := ∃ p ∈ S, ∃ x ∈ cellsUp (blk (sub M p.1 p.2)) 64, y = (64 * p.1 + x.1, 64 * p.2 + x.2)
theorem fold_mem (p : Nat × Nat) {y : Nat × Nat} {a : Nat} : ∀ (xs : List (Nat × Nat)) (L : Nat → List (Nat × Nat)), y ∈ (xs.foldl (addC p) L) a → y ∈ L a ∨ ∃ x ∈ xs, y = (64 * p.1 + x.1, 64 * p.2 + x.2)
  | [], L, h => .inl h
  | x :: xs, L, h => by
    rw [List.foldl_cons] at h
    rcases fold_mem p xs _ h with h | ⟨z, hz, e⟩
    · unfold addC updL at h
      split at h
      · rw [List.mem_append, List.mem_singleton] at h
        rcases h with h | h
        · exact .inl h
        · exact .inr ⟨x, List.mem_cons_self .., h⟩
      · exact .inl h
    · exact .inr ⟨z, List.mem_cons_of_mem _ hz, e⟩
theorem strip_mem (M : Nat → Nat → Bool) {y : Nat × Nat} {a : Nat} : ∀ (S : List (Nat × Nat)) (L : Nat → List (Nat × Nat)), y ∈ (S.foldl (addP M) L) a → y ∈ L a ∨ OfS M S y
  | [], L, h => .inl h
  | p :: S, L, h => by
    rw [List.foldl_cons] at h
    rcases strip_mem M S _ h with h | ⟨z, hz, e⟩
    · unfold addP at h
      rcases fold_mem p _ _ h with h | ⟨x, hx, e⟩
      · exact .inl h
      · exact .inr ⟨p, List.mem_cons_self .., x, hx, e⟩
    · exact .inr ⟨z, List.mem_cons_of_mem _ hz, e⟩
theorem cellsS_mem {M : Nat → Nat → Bool} {S : List (Nat × Nat)} {y : Nat × Nat} (h : y ∈ cellsS M S) : OfS M S y := by
  rw [cellsS_eq, List.mem_flatMap] at h
  obtain ⟨a, _, h⟩ := h
  unfold stripL at h
  rcases strip_mem M S _ h with h | h
  · cases h
  · exact h
theorem cellsF_mem {M : Nat → Nat → Bool} {y : Nat × Nat} : ∀ {n : Nat} {S : List (Nat × Nat)}, y ∈ cellsF M n S → OfS M S y
  | 0, S, h => by simp [cellsF] at h
  | n + 1, S, h => by
    unfold cellsF at h
    split at h
    · cases h
    · rcases List.mem_append.1 h with h | h
      · obtain ⟨p, hp, r⟩ := cellsS_mem h
        exact ⟨p, List.mem_of_mem_take hp, r⟩
      · obtain ⟨p, hp, r⟩ := cellsF_mem h
        exact ⟨p, List.mem_of_mem_drop hp, r⟩
theorem told_there {M : Nat → Nat → Bool} {n : Nat} {S : List (Nat × Nat)} {y : Nat × Nat} (h : y ∈ cellsF M n S) : M y.1 y.2 = true := by
  obtain ⟨p, _, x, hx, rfl⟩ := cellsF_mem h
  obtain ⟨h1, h2, h3⟩ := mem_cellsUp.1 (show (x.1, x.2) ∈ cellsUp (blk (sub M p.1 p.2)) 64 from hx)
  rw [bt_blk _ _ _ h2] at h3
  exact h3
theorem seqType2 : ((Tryd.prog.underlying 63).map fun d => match d with | .func .. => true | _ => false) = some true := by kernel_rfl
theorem fn_nil2 (g : Fn) (a b : Array Value) (w : World) : (binOp .eql 63 (.func g a b) .nilFunc).run Tryd.prog w = .ok (.bool false) w := by
  cases hs : Tryd.prog.underlying 63 with
  | none => have := seqType2; rw [hs] at this; cases this
  | some s =>
    have h := seqType2
    rw [hs] at h
    cases s <;> simp at h
    have e : ∀ d, (Op.equalIn (d + 1) 63 (.func g a b) .nilFunc).run Tryd.prog w = .ok false w := fun d => by simp [Op.equalIn, run_underlying hs]
    simp [binOp, Op.equal]
    rw [show Op.maxDepth = 9999 + 1 from rfl, e]
    rfl
/-- A frame under a name. -/
theorem name_frame {F : Fence} {n : Nat} {P : Program} {c : Code} {Q : Exit → Act → World → Prop} {X : Array Value} {ds : List Deferred} {w : World} (h : ∀ T, X = T → c.wpIn F n P Q { tmps := T, defers := ds } w) : c.wpIn F n P Q { tmps := X, defers := ds } w := h X rfl
attribute [local go_sem] Oper.semAt_some
section
set_option maxHeartbeats 8000000
set_option maxRecDepth 100000
theorem turned_law (W : World) (x : Int) (ao : Option Addr) (n cap : Nat) (R C : Nat → Int) (hn : n ≤ 9223372036854775807) (hC : Cls W ao n R C) (hT : Tab W) :
    Calls Tryd.prog 6 #[.int .i64 x, .slice ao n cap] W fun e w' => e = .returned (.bool true) ∧ Far (fun _ => False) W w' := by
  obtain ⟨s, hs⟩ : ∃ s, (x % 1024).toNat + 1 = s := ⟨_, rfl⟩
  have hs1 : 1 ≤ s := by omega
  have hs2 : s ≤ 1024 := by omega
  obtain ⟨h0, hh0⟩ : ∃ h, h = W.heap.size := ⟨_, rfl⟩
  obtain ⟨Wa, hWa⟩ : ∃ V, V = W.alloc (.cells #[.bool false] 4) := ⟨_, rfl⟩
  have hFa : Far (fun _ => False) W Wa := hWa ▸ (Far.refl _ W).alloc _
  have hBa : Bk Wa h0 4 #[.bool false] := hWa ▸ Bk.new hh0
  have SZ := size02_any x Wa
  rw [hs] at SZ
  have PU := put02_any s hs1 hs2 ao n cap R C hn Wa (hC.move hFa)
  obtain ⟨M, hM⟩ : ∃ M, putL (fun k => red s (R k)) (fun k => red s (C k)) n = M := ⟨_, rfl⟩
  rw [hM] at PU
  have hle := numM_le M
  have hh0' := Lib.hid hh0
  have hWa' := Lib.hid hWa
  have hFa' := Lib.hid hFa
  have hBa' := Lib.hid hBa
  clear hC hM hs hh0 hWa hFa hBa
  refine (callsIn_wide (n := 10)).1 (callsIn_of_wp_marks Tryd.func6 rfl trivial (wpIn_wide.2 ?_) rfl)
  simp only [Tryd.ntmps6, List.size_toArray, List.length_cons, List.length_nil, Nat.reduceAdd, Nat.reduceSub, Array.replicate_succ, Array.replicate_zero, List.push_toArray, List.append_toArray, List.nil_append, List.cons_append]
  go_upto_region 1 with fail
  rw [← hh0'.out, ← hWa'.out]
  go_wp2_with fail
  refine SZ.mono ?_
  rintro e w' ⟨rfl, rfl⟩
  clear SZ
  go_wp2_with fail
  refine PU.mono ?_
  rintro e w1 ⟨Bm, rfl, Fm, hXm, hlm, hf1⟩
  have TN := qturn_any hXm
  have hXm' := Lib.hid hXm
  have hf1' := Lib.hid hf1
  clear PU hXm hlm hf1
  go_wp2_with fail
  refine TN.mono ?_
  rintro e w2 ⟨Bt, rfl, Ft, hXt, _, hf2⟩
  have hXt' := Lib.hid hXt
  have hf2' := Lib.hid hf2
  clear TN hXt hf2
  go_upto_region 5 with fail
  obtain ⟨h7, hh7⟩ : ∃ h, h = w2.heap.size := ⟨_, rfl⟩
  obtain ⟨w3, hw3⟩ : ∃ V, V = w2.alloc (.cells #[.pointer (some ⟨Bt, 0, none⟩)] 24) := ⟨_, rfl⟩
  rw [← hh7, ← hw3]
  have hf23 : Far (fun _ => False) w2 w3 := hw3 ▸ (Far.refl _ w2).alloc _
  have hB7 : Bk w3 h7 24 #[.pointer (some ⟨Bt, 0, none⟩)] := hw3 ▸ Bk.new hh7
  have hXt3 := hXt'.out.still hf23
  have hXm3 := Lib.hid (hXm'.out.still (hf2'.out.then hf23))
  have hB03 := Lib.hid (hBa'.out.far' (hf1'.out.then (hf2'.out.then hf23)) id)
  have hfw3 := Lib.hid (hFa'.out.then (hf1'.out.then (hf2'.out.then hf23)))
  have L1 := qlen_any hXt3
  rw [show numM (tnM M) = numM M from numM_turn M] at L1
  have c7 : w3.cell? ⟨h7, 0, none⟩ = some (.pointer (some ⟨Bt, 0, none⟩)) := hB7.cell 0
  have hXt3' := Lib.hid hXt3
  have hB7' := Lib.hid hB7
  have hlo7 := Lib.hid (show h0 < h7 by have := hBa'.out.lt; have := hf1'.out.size; have := hf2'.out.size; omega)
  clear hw3 hh7 hf23 hB7 hXt3 hXm' hXt' hf1' hf2' hFa' hBa'
  go_wp2_with fail
  refine L1.mono ?_
  rintro e w4 ⟨rfl, hf4⟩
  have T2 := qturn_any (hXt3'.out.still hf4)
  have c74 : w4.cell? ⟨h7, 0, none⟩ = some (.pointer (some ⟨Bt, 0, none⟩)) := (hB7'.out.far' hf4 id).cell 0
  have hf4' := Lib.hid hf4
  clear L1 hf4 c7
  go_wp2_with fail
  refine T2.mono ?_
  rintro e w5 ⟨Btt, rfl, Ftt, hXtt, _, hf5⟩
  have hf45 := Lib.hid (hf4'.out.then hf5)
  have S1 := qsame_any hXtt (hXm3.out.still hf45.out)
  clear T2 hXtt hf5 c74 hf4'
  go_wp2_with fail
  refine S1.mono ?_
  rintro e w6 ⟨v1, rfl, hv1, hf6⟩
  have hv1t : v1 = true := hv1.2 (by simp [tnM])
  subst hv1t
  have hf36 := Lib.hid (hf45.out.then hf6)
  have CE := qCells_any (hXm3.out.still hf36.out)
  have FN := fn_nil2
  clear S1 hv1 hf6 hf45
  go_wp2_with fail
  refine CE.mono ?_
  rintro e W0 ⟨hb, v, rfl, hbX, hbO, hbz, hf7⟩
  have hf30 := Lib.hid (hf36.out.then hf7)
  have hXt0 := Lib.hid (hXt3'.out.still hf30.out)
  have hB0 := Lib.hid (hB03.out.far' hf30.out id)
  have hB7 := Lib.hid (hB7'.out.far' hf30.out id)
  have hfw0 := Lib.hid (hfw3.out.then hf30.out)
  have hTw0 := Lib.hid (hT.still hfw0.out)
  have hwin := Lib.hid hXm3.out.within
  have hbX' := Lib.hid hbX
  have hbO' := Lib.hid hbO
  clear CE hbX hbO hbz hf7 hXm3 hXt3' hB03 hB7' hfw3 hf36
  go_wp2_with fail
  refine (wpIn_wide (n := 10)).1 ?_
  obtain ⟨aov, capv, rfl⟩ := q_form hbO'.out
  obtain ⟨L, hL⟩ : ∃ L, placesL M s = L := ⟨_, rfl⟩
  rw [hL] at hbO' hbX'
  have hLf : L.length ≤ 256 := by have := placesL_few M hs2; rw [hL] at this; exact this
  have hLp : ∀ p ∈ L, p.1 < 16 ∧ p.2 < 16 := fun p hp => by
    rw [← hL] at hp
    obtain ⟨h1, h2, _⟩ := mem_placesL.1 hp
    have := lns_le hs2
    omega
  clear hL FN
  refine range_ok (by decide) rfl (enters_of Tryd.func90 (by kernel_rfl) rfl) (qcells_seq (10 - 1) (by decide) hb w6.heap.size _ M L hLf hLp W0 hbX'.out hbO'.out hTw0.out) KT.trans (fun V l o o' hl h ho => KT.put (B := W0.heap.size) V l o o' hTw0.out.lt hl h ho) (fun _ => rfl)
    (fun pre V => Far (fun _ => False) W0 V) (fun _ _ _ => False) ?own ?ownx (Far.refl _ _)
    (fun pre y a' V => ((pre ++ [y]) <+: cellsF M L.length L) ∧ a' = { tmps := #[.int .i64 x, .slice ao n cap, undef, undef, .pointer (some ⟨h0, 0, none⟩), .pointer (some ⟨Bm, 0, none⟩), .int .i64 (numM M : Nat), .pointer (some ⟨h7, 0, none⟩), .func (.func 90) #[] #[.pointer (some ⟨hb, 0, none⟩)], .int .i64 (y.1 : Nat), .int .i64 (y.2 : Nat), undef, undef, .tuple #[.pointer (some ⟨Bm, 0, none⟩), .int .i64 (numM M : Nat)], .int .i64 x, .int .i64 (s : Nat), .slice ao n cap, .tuple #[.pointer (some ⟨Bm, 0, none⟩), .int .i64 (numM M : Nat)], .pointer (some ⟨Bm, 0, none⟩), .int .i64 (numM M : Nat), .pointer (some ⟨Bm, 0, none⟩), .bool false, .pointer (some ⟨Bm, 0, none⟩), .pointer (some ⟨Bt, 0, none⟩), .pointer (some ⟨Bt, 0, none⟩), .bool false, .bool false, .pointer (some ⟨Bt, 0, none⟩), .int .i64 (numM M : Nat), .int .i64 (numM M : Nat), .bool false, .bool false, .bool false, .pointer (some ⟨Bt, 0, none⟩), .pointer (some ⟨Btt, 0, none⟩), .pointer (some ⟨Bm, 0, none⟩), .bool true, .bool false, .bool false, .pointer (some ⟨Bm, 0, none⟩), .func (.func 90) #[] #[.pointer (some ⟨hb, 0, none⟩)], .func (.func 90) #[] #[.pointer (some ⟨hb, 0, none⟩)], .bool false, .func (.func 90) #[] #[.pointer (some ⟨hb, 0, none⟩)], .int .i64 (y.1 : Nat), .int .i64 (y.2 : Nat), undef, undef, undef, undef, undef, undef, undef, undef, undef, undef, undef, undef, undef, undef], defers := [] }) ?hAx ?assign ?body ?done ?stop
  case own => exact fun u A B row h hg hr => far_own h hg hr
  case ownx => exact fun c u A B row h _ _ => h
  case hAx => exact fun pre y a' u A B row h _ _ => h
  case assign =>
    intro l pre y V KK hI hok hK
    have hK' := hK _ V (KeepsFrom.refl _ _) (KT.refl _) hI ⟨hok, rfl⟩
    simp only [encP, List.zip_toArray, List.zip_cons_cons, List.zip_nil_right, List.foldl_toArray', List.foldl_cons, List.foldl_nil, List.setIfInBounds_toArray, List.set_cons_succ, List.set_cons_zero]
    gi_wp2
    exact hK'
  case body =>
    rintro l pre y a' V hl hI ⟨hpre, rfl⟩
    have hm : M y.1 y.2 = true := told_there (hpre.subset (by simp))
    obtain ⟨hy1, hy2⟩ := hwin.out _ _ hm
    have hI' : Far (fun _ => False) W0 V := hI
    have G := Mx.get (hXt0.out.still hI') y.2 y.1 hy2 hy1
    rw [show tnM M y.2 y.1 = true from hm] at G
    have c7 : V.cell? ⟨h7, 0, none⟩ = some (.pointer (some ⟨Bt, 0, none⟩)) := (hB7.out.far' hI' id).cell 0
    have hIh := Lib.hid hI'
    clear hpre hm hI hI'
    gi_wp2_with (refine ⟨trivial, ?_⟩; refine (CallsIn.inRound l (callsIn_wide.2 G)).mono ?_; rintro e V1 ⟨rfl, hf1⟩; have hf1' := Lib.hid hf1; clear hf1 G c7)
    exact ⟨keeps_far hf1'.out fun _ h => h.elim, KT.far hf1'.out (Nat.lt_of_lt_of_le hTw0.out.lt hIh.out.size), hIh.out.then hf1'.out⟩
  case done =>
    rintro D xs V hD hS hI hK
    have hI' : Far (fun _ => False) W0 V := hI
    have hDn : D ≠ h0 := by have := hB0.out.lt; omega
    have hb0 := Lib.hid (hB0.out.far' hI' id)
    have hG' := Lib.hid hI'
    have hK' := Lib.hid hK
    clear hS hI hI' hK
    go_wp2_with fail
    refine (awake02_any V).mono ?_
    rintro e V2 ⟨rfl, hv2⟩
    have r2 := Lib.hid (hb0.out.far' hv2 id)
    have g0 : V2.cell? ⟨h0, 0, none⟩ = some (.bool false) := r2.out.cell 0
    have g1 := r2.out.free 0
    have hKV : V2.heap[D]? = some (.deferred (some [])) := (hv2.block D (Array.getElem?_eq_some_iff.1 hK'.out).1 id).trans hK'.out
    have hKS := Lib.hid ((heap_setCell_other V2 ⟨h0, 0, none⟩ D (.bool true) hDn).trans hKV)
    have R1 := Lib.hid (show Bk ((V2.setCell ⟨h0, 0, none⟩ (.bool true)).putObj D (.deferred none)) h0 4 #[.bool true] from (World.putObj_heap_other (fun e => hDn e.symm)).trans (r2.out.set 0 (.bool true)))
    have hZ := Lib.hid (show Far (fun k => W.heap.size ≤ k) W ((V2.setCell ⟨h0, 0, none⟩ (.bool true)).putObj D (.deferred none)) from
      ((((hfw0.out.then hG'.out).then hv2).mono (G := fun k => W.heap.size ≤ k) fun _ _ h => h.elim).set ⟨h0, 0, none⟩ (.bool true) (fun _ => by have := hh0'.out; show W.heap.size ≤ h0; omega)).grown (grownBy_putObj' _ D (.deferred none)) (fun k hk e => by cases e; have := hfw0.out.size; omega))
    clear hKV hv2
    go_wp2_with fail
    refine ⟨by simp, .inl ⟨D, _, rfl, run_takeDeferred hKS.out, ?_⟩⟩
    refine ⟨.bool true, ?_, rfl, hZ.out.mono fun k hk h => by omega⟩
    have hc := R1.out.cell 0
    simp [results, Tryd.f6, go_sem, hc]
  case stop => exact fun D c pre V _ _ h _ => h.elim
end
end Go.Proofs.YtoaeeojnelmlnaaDoor
