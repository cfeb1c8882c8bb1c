/-
  kron.made walked: of each cell of a matrix what a function says.
-/
import Derived.Test.YtkobbcmndneajaaDoorQLay
import Derived.Laws.EntriesVeiled
namespace Go.Proofs.YtkobbcmndneajaaDoor
open Go.RowKit Go.Shelf
set_option linter.unusedVariables false
set_option linter.unusedSimpArgs false
attribute [local go_sem] Oper.semAt_some
/-- The cells that are made of a list's. -/
def mkL (tr tc : Nat → Nat → Nat) (tb : Nat → Nat → Bool) (L : List (Nat × Nat)) : List (Nat × Nat) := (L.filter fun x => tb x.1 x.2).map fun x => (tr x.1 x.2, tc x.1 x.2)
theorem mkL_app (tr tc : Nat → Nat → Nat) (tb : Nat → Nat → Bool) (L : List (Nat × Nat)) (x : Nat × Nat) : mkL tr tc tb (L ++ [x]) = if tb x.1 x.2 = true then mkL tr tc tb L ++ [(tr x.1 x.2, tc x.1 x.2)] else mkL tr tc tb L := by
  unfold mkL
  rw [List.filter_append, List.map_append]
  by_cases h : tb x.1 x.2 = true
  · rw [if_pos h]; simp [h]
  · rw [if_neg h]; simp [h]
/-- Where made stands. -/
structure KI (Bm t : Nat) (W0 : World) (N : Nat → Nat → Bool) (F : Nat → Prop) (X : World) : Prop where
  mx : Mx X Bm F t N
  own : ∀ k, F k → k = Bm ∨ W0.heap.size ≤ k
  far : Far (fun k => k = Bm) W0 X
theorem KI.go {Bm t : Nat} {W0 A B : World} {F : Nat → Prop} {N : Nat → Nat → Bool} {row : Option Nat} (h : KI Bm t W0 N F A) (hg : A.grownBy B row) (hr : ∀ r, row = some r → W0.heap.size ≤ r ∧ ∃ o : Obj, A.heap[r]? = some o ∧ o.isCells = false) : KI Bm t W0 N F B := by
  refine ⟨h.mx.kept (grown_F hg) fun k hk e => ?_, h.own, far_own h.far hg hr⟩
  obtain ⟨_, o, ho, hc⟩ := hr k e
  have := h.mx.cells hk ho
  rw [hc] at this
  exact Bool.noConfusion this
theorem KI.still {Bm t : Nat} {W0 A B : World} {F : Nat → Prop} {N : Nat → Nat → Bool} (h : KI Bm t W0 N F A) (hf : Far (fun _ => False) A B) : KI Bm t W0 N F B :=
  ⟨h.mx.still hf, h.own, h.far.trans hf fun _ _ h => h.elim⟩
section
variable {w : World} {Bc sc : Nat} {Fc : Nat → Prop} {C : Nat → Nat → Bool}
set_option maxHeartbeats 16000000
set_option maxRecDepth 100000
theorem kmade_any (hc : Mx w Bc Fc sc C) (t : Nat) (ht1 : 1 ≤ t) (ht2 : t ≤ 1024) (gf : Nat) (lb : Array Value) (tr tc : Nat → Nat → Nat) (tb : Nat → Nat → Bool)
    (hEG : ∀ args w, (callFunc gf args).run Tryd.prog w = .ok (.enter gf args) w)
    (hcall : ∀ i j : Nat, C i j = true → ∀ W, Far (fun _ => False) w W → Calls Tryd.prog gf (#[.int .i64 (i : Nat), .int .i64 (j : Nat)] ++ lb) W fun e w' => e = .returned (.tuple #[.agg #[.int .i64 (tr i j : Nat), .int .i64 (tc i j : Nat)], .bool (tb i j)]) ∧ Far (fun _ => False) W w')
    (hfit : ∀ i j, C i j = true → tb i j = true → tr i j < t ∧ tc i j < t) (hT : Tab w) :
    Calls Tryd.prog 92 #[.pointer (some ⟨Bc, 0, none⟩), .int .i64 (t : Nat), .func (.func gf) #[] lb] w fun e w' => ∃ B', e = .returned (.pointer (some ⟨B', 0, none⟩)) ∧ ∃ F', Mx w' B' F' t (addL zeroM (mkL tr tc tb (cellsL C sc))) ∧ (∀ k, F' k → w.heap.size ≤ k) ∧ Far (fun _ => False) w w' := by
  obtain ⟨c1, c2⟩ := hc.sides
  have hwc := hc.within
  have hcan := cells_canon c2 hwc
  obtain ⟨h5, hh5⟩ : ∃ h, h = w.heap.size := ⟨_, rfl⟩
  obtain ⟨W1, hW1⟩ : ∃ V, V = w.alloc (.cells #[.func (.func gf) #[] lb] 136) := ⟨_, rfl⟩
  have hf1 : Far (fun _ => False) w W1 := hW1 ▸ (Far.refl _ w).alloc _
  have b5 : Bk W1 h5 136 #[.func (.func gf) #[] lb] := hW1 ▸ Bk.new hh5
  have NW := qnew_yes t ht1 ht2 W1
  have hc' := Lib.hid hc
  have hh5' := Lib.hid hh5
  have hW1' := Lib.hid hW1
  have hf1' := Lib.hid hf1
  have b5' := Lib.hid b5
  have hwc' := Lib.hid hwc
  have hcan' := Lib.hid hcan
  have hcall' := Lib.hid hcall
  have hfit' := Lib.hid hfit
  clear hc hh5 hW1 hf1 b5 hwc hcan hcall hfit
  refine (callsIn_wide (n := 10)).1 (callsIn_of_wp_marks Tryd.func92 rfl trivial (wpIn_wide.2 ?_) rfl)
  simp only [Tryd.ntmps92, List.size_toArray, List.length_cons, List.length_nil, Nat.reduceAdd, Nat.reduceSub, Array.replicate_succ, Array.replicate_zero, List.push_toArray, List.append_toArray, List.nil_append, List.cons_append]
  go_upto_region 1 with fail
  rw [← hh5'.out, ← hW1'.out]
  go_wp2_with fail
  refine NW.mono ?_
  rintro e W2 ⟨rfl, lv, hlv, hwd, hBm, hf2⟩
  obtain ⟨Bm, hBm'⟩ : ∃ b, b = W1.heap.size := ⟨_, rfl⟩
  rw [← hBm'] at hBm ⊢
  obtain ⟨h7, hh7⟩ : ∃ h, h = W2.heap.size := ⟨_, rfl⟩
  obtain ⟨W3, hW3⟩ : ∃ V, V = W2.alloc (.cells #[.pointer (some ⟨Bm, 0, none⟩)] 24) := ⟨_, rfl⟩
  have hf3 : Far (fun _ => False) W2 W3 := hW3 ▸ (Far.refl _ W2).alloc _
  have b7 : Bk W3 h7 24 #[.pointer (some ⟨Bm, 0, none⟩)] := hW3 ▸ Bk.new hh7
  have hM3 := (Mx.new (w := w) ht1 ht2 hlv hwd hBm).still hf3
  have hfw3 := Lib.hid (hf1'.out.then (hf2.then hf3))
  have CE := qCells_any (hc'.out.still hfw3.out)
  have b5w := Lib.hid (b5'.out.far' (hf2.then hf3) id)
  have b7' := Lib.hid b7
  have hM3' := Lib.hid hM3
  have hh7' := Lib.hid hh7
  have hW3' := Lib.hid hW3
  have hBmw := Lib.hid (show w.heap.size ≤ Bm ∧ h5 < Bm ∧ Bm < h7 from ⟨by rw [hBm']; exact hf1'.out.size, by rw [hBm']; exact b5'.out.lt, by rw [hh7]; exact hBm.lt⟩)
  clear NW hBm hf2 hf3 b7 hM3 hh7 hW3 b5' hBm' hlv hwd
  go_upto_region 2 with fail
  rw [← hh7'.out, ← hW3'.out]
  go_wp2_with fail
  refine CE.mono ?_
  rintro e W0 ⟨bb, vb, rfl, hbX, hbO, hbz, hf4⟩
  have hfw0 := Lib.hid (hfw3.out.then hf4)
  have hTw0 := Lib.hid (hT.still hfw0.out)
  have b50 := Lib.hid (b5w.out.far' hf4 id)
  have b70 := Lib.hid (b7'.out.far' hf4 id)
  have hM0 := Lib.hid (hM3'.out.still hf4)
  have hbX' := Lib.hid hbX
  have hbO' := Lib.hid hbO
  clear CE hf4 hbX hbO hbz b5w b7' hM3'
  go_wp2_with fail
  refine (wpIn_wide (n := 10)).1 ?_
  obtain ⟨aob, capb, rfl⟩ := q_form hbO'.out
  obtain ⟨Lc, hLc⟩ : ∃ L, placesL C sc = L := ⟨_, rfl⟩
  have hLf : Lc.length ≤ 256 := by have := placesL_few C c2; rw [hLc] at this; exact this
  have hLp : ∀ y ∈ Lc, y.1 < 16 ∧ y.2 < 16 := fun y hy => by
    rw [← hLc] at hy
    obtain ⟨h1, h2, _⟩ := mem_placesL.1 hy
    have := lns_le c2
    omega
  rw [hLc] at hbO' hbX' hcan'
  clear hLc
  have hI0 : ∃ F, KI Bm t W0 (addL zeroM (mkL tr tc tb [])) F W0 := ⟨_, hM0.out.congr fun r c => addL_nil zeroM r c, fun k hk => .inl (Qf_none hk), Far.refl _ _⟩
  refine name_frame fun T hTT => ?_
  refine range_okH (by decide) (by rw [← hTT]; rfl) (enters_of Tryd.func112 (by kernel_rfl) rfl) (qcells_seq (10 - 1) (by decide) bb W3.heap.size _ C Lc hLf hLp W0 hbX'.out hbO'.out hTw0.out) KT.trans (fun V l o o' hl h ho => KT.put (B := W0.heap.size) V l o o' hTw0.out.lt hl h ho) (fun _ => rfl)
    (fun pre V => ∃ F, KI Bm t W0 (addL zeroM (mkL tr tc tb pre)) F V) (fun _ _ _ => False) ?own ?ownx hI0
    (fun pre y a' V => ((pre ++ [y]) <+: cellsF C Lc.length Lc) ∧ a' = { tmps := ((((T.setIfInBounds 20 (.int .i64 (y.1 : Nat))).setIfInBounds 21 (.int .i64 (y.2 : Nat))).setIfInBounds 9 (.int .i64 (y.1 : Nat))).setIfInBounds 10 (.int .i64 (y.2 : Nat))), defers := [] }) ?hAx ?assign ?body ?done ?stop
  case own =>
    rintro u X Y row ⟨F, h⟩ hg hr
    exact ⟨F, h.go hg hr⟩
  case ownx => exact fun c u A B row h _ _ => h
  case stop => exact fun D c pre V _ _ h _ => h.elim
  case hAx => exact fun pre y a' u A B row h _ _ => h
  case assign =>
    intro l pre y V KK hI hok hK
    have hK' := hK _ V (KeepsFrom.refl _ _) (KT.refl _) hI ⟨hok, rfl⟩
    subst hTT
    simp only [encP, List.zip_toArray, List.zip_cons_cons, List.zip_nil_right, List.foldl_toArray', List.foldl_cons, List.foldl_nil, List.setIfInBounds_toArray, List.set_cons_succ, List.set_cons_zero] at hK' ⊢
    gi_wp2
    exact hK'
  case body =>
    rintro l pre y a' X hl _ ⟨F, hi⟩ ⟨hpre, rfl⟩
    have hm : C y.1 y.2 = true := told_there (hpre.subset (by simp))
    have hBw := hBmw.out
    have b5X := b50.out.far' hi.far (by omega)
    have b7X := b70.out.far' hi.far (by omega)
    have hFX : Far (fun _ => False) w X := (hfw0.out.trans hi.far fun g hg e => by omega)
    have CL := hcall'.out y.1 y.2 hm X hFX
    obtain ⟨r, hr⟩ : ∃ r, tr y.1 y.2 = r := ⟨_, rfl⟩
    obtain ⟨s, hs⟩ : ∃ s, tc y.1 y.2 = s := ⟨_, rfl⟩
    obtain ⟨b, hb⟩ : ∃ b, tb y.1 y.2 = b := ⟨_, rfl⟩
    have hft := hfit'.out y.1 y.2 hm
    have hmk := mkL_app tr tc tb pre y
    rw [hr, hs, hb] at CL
    rw [hr, hs, hb] at hft
    rw [hr, hs, hb] at hmk
    have c5 : X.cell? ⟨h5, 0, none⟩ = some (.func (.func gf) #[] lb) := b5X.cell 0
    have hi' := Lib.hid hi
    have b7X' := Lib.hid b7X
    have hmk' := Lib.hid hmk
    have hft' := Lib.hid hft
    subst hTT
    simp only [List.setIfInBounds_toArray, List.set_cons_succ, List.set_cons_zero]
    clear hpre hm hi b5X b7X hr hs hb hft hmk hFX hBw
    cases b with
    | true =>
      have hft2 := Lib.hid (hft'.out rfl)
      have S2 := Lib.hid (fun (V : World) (hf : Far (fun _ => False) X V) => qset_yes (hi'.out.mx.still hf) r s hft2.out.1 hft2.out.2)
      gi_wp2_with (first | (refine ⟨trivial, ?_⟩; refine (CallsIn.inRound l (callsIn_wide.2 CL)).mono ?_; rintro e V1 ⟨rfl, hf1⟩; have b71 := b7X'.out.far' hf1 id; have hf2 := (hf1.alloc (.cells #[.int .i64 (r : Nat), .int .i64 (s : Nat)] 82) : Far (fun _ => False) X _); have c7 : (V1.alloc (.cells #[.int .i64 (r : Nat), .int .i64 (s : Nat)] 82)).cell? ⟨h7, 0, none⟩ = some (.pointer (some ⟨Bm, 0, none⟩)) := (b7X'.out.far' hf2 id).cell 0; have hf2' := Lib.hid hf2; clear hf1 hf2 b71 CL c5) | (refine ⟨trivial, ?_⟩; refine (CallsIn.inRound l (callsIn_wide.2 (S2.out _ hf2'.out))).mono ?_; rintro e V2 ⟨rfl, F1, hX1, hm1⟩; have hX1' := Lib.hid hX1; have hm1' := Lib.hid hm1; clear hX1 hm1 c7))
      have hi := hi'.out
      have hX := hX1'.out
      have hm : Mv X V2 F F1 := (Mv.still hf2'.out).trans hm1'.out
      have hzX := hi.far.size
      have hBw := hBmw.out
      refine ⟨⟨hm.far.size, fun g o _ hg ho => (hm.far.block g (Array.getElem?_eq_some_iff.1 hg).1 fun e => ?_).trans hg⟩, KT.ofFar hm.far (by have := hTw0.out.lt; omega) fun g hg => ⟨fun e => ?_, fun cs t hb => hi.mx.types hg cs t hb⟩, F1, ⟨?_, fun g hg => ?_, hi.far.trans hm.far fun g hg e => ?_⟩⟩
      · have := hi.mx.cells e hg
        rw [ho] at this
        cases this
      · subst e
        have := hT.lt
        have := hTw0.out.lt
        rcases hi.own _ hg with e | e <;> omega
      · rw [hmk'.out]
        exact hX.congr fun i j => addL_app zeroM _ r s i j
      · rcases hm.more g hg with e | e
        · exact hi.own g e
        · exact .inr (by omega)
      · rcases hi.own g e with e | e
        · exact e
        · omega
    | false =>
      gi_wp2_with (refine ⟨trivial, ?_⟩; refine (CallsIn.inRound l (callsIn_wide.2 CL)).mono ?_; rintro e V1 ⟨rfl, hf1⟩; have b71 := b7X'.out.far' hf1 id; have hf2 := (hf1.alloc (.cells #[.int .i64 (r : Nat), .int .i64 (s : Nat)] 82) : Far (fun _ => False) X _); have c7 : (V1.alloc (.cells #[.int .i64 (r : Nat), .int .i64 (s : Nat)] 82)).cell? ⟨h7, 0, none⟩ = some (.pointer (some ⟨Bm, 0, none⟩)) := (b7X'.out.far' hf2 id).cell 0; have hf2' := Lib.hid hf2; clear hf1 hf2 b71 CL c5)
      have hi := hi'.out
      have hzX := hi.far.size
      refine ⟨keeps_far hf2'.out fun _ h => h.elim, KT.far hf2'.out (by have := hTw0.out.lt; omega), F, ?_⟩
      rw [hmk'.out]
      exact hi.still hf2'.out
  case done =>
    rintro D xs V hD rfl ⟨F, hi⟩ hK
    have b7V := b70.out.far' hi.far (by have := hBmw.out; omega)
    have c7 : V.cell? ⟨h7, 0, none⟩ = some (.pointer (some ⟨Bm, 0, none⟩)) := b7V.cell 0
    have hmx := hi.mx
    rw [hcan'.out] at hmx
    have hmx' := Lib.hid hmx
    have hmo := Lib.hid hi.own
    have hfa := Lib.hid hi.far
    have m2 := Lib.hid (Marks.cons (Marks.nil W0 w.heap.size) (Marks.nil V w.heap.size) (Nat.le_trans hfw0.out.size hD) hD hK)
    subst hTT
    clear hi hK hmx b7V
    go_wp2_with fail
    refine leave_marks m2.out fun W' hfW => ?_
    refine ⟨.pointer (some ⟨Bm, 0, none⟩), by simp [results, Tryd.f92, go_sem], Bm, rfl, F, ?_, fun g hg => ?_, ?_⟩
    · refine hmx'.out.kept hfW fun g hg e => ?_
      have := hmx'.out.cells hg e.2
      cases this
    · rcases hmo.out g hg with e | e
      · have := hBmw.out; omega
      · exact Nat.le_trans hfw0.out.size e
    · exact (hfw0.out.trans hfa.out fun g hg e => by have := hBmw.out; omega).trans hfW fun g hg e => by have := e.1; omega
end
end Go.Proofs.YtkobbcmndneajaaDoor
