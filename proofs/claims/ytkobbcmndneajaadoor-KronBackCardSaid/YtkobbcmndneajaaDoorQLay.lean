/-
  kron.lay walked: the cells of Kronecker's product joined to a matrix.
-/
import Derived.Test.YtkobbcmndneajaaDoorQKronM
import Derived.Test.YtkobbcmndneajaaDoorQNest
import Derived.Test.YtkobbcmndneajaaDoorQHas
import Derived.Laws.EntriesVeiled
namespace Go.Proofs.YtkobbcmndneajaaDoor
open Go.RowKit Go.Shelf
set_option linter.unusedVariables false
set_option linter.unusedSimpArgs false
attribute [local go_sem] Oper.semAt_some
/-- Where lay stands: the matrix under way and whether there was something new. -/
structure LaI (Bc h7 sc : Nat) (W0 : World) (Fc : Nat → Prop) (N : Nat → Nat → Bool) (nb : Bool) (F : Nat → Prop) (X : World) : Prop where
  mx : Mx X Bc F sc N
  more : ∀ k, F k → Fc k ∨ W0.heap.size ≤ k
  b7 : Bk X h7 4 #[.bool nb]
  far : Far (fun k => k = h7 ∨ Fc k) W0 X
theorem LaI.go {Bc h7 sc : Nat} {W0 A B : World} {Fc F : Nat → Prop} {N : Nat → Nat → Bool} {nb : Bool} {row : Option Nat} (h : LaI Bc h7 sc W0 Fc N nb F A) (hg : A.grownBy B row) (hr : ∀ r, row = some r → W0.heap.size ≤ r ∧ ∃ o : Obj, A.heap[r]? = some o ∧ o.isCells = false) : LaI Bc h7 sc W0 Fc N nb F B := by
  refine ⟨h.mx.kept (grown_F hg) fun k hk e => ?_, h.more, bk_other h.b7 (grown_F hg) fun k e => (hr k e).2, far_own h.far hg hr⟩
  obtain ⟨_, o, ho, hc⟩ := hr k e
  have := h.mx.cells hk ho
  rw [hc] at this
  exact Bool.noConfusion this
theorem LaI.still {Bc h7 sc : Nat} {W0 A B : World} {Fc F : Nat → Prop} {N : Nat → Nat → Bool} {nb : Bool} (h : LaI Bc h7 sc W0 Fc N nb F A) (hf : Far (fun _ => False) A B) : LaI Bc h7 sc W0 Fc N nb F B :=
  ⟨h.mx.still hf, h.more, h.b7.far' hf id, h.far.trans hf fun _ _ h => h.elim⟩
theorem LaI.next {Bc h7 sc : Nat} {X V V1 V2 : World} {F0 F F1 : Nat → Prop} {N N' : Nat → Nat → Bool} {nb nb' : Bool} (hj : LaI Bc h7 sc X F0 N nb F V) (ht : ¬ F0 0) (htX : 0 < X.heap.size) (ht7 : 0 < h7)
    (hX1 : Mx V1 Bc F1 sc N') (hm : Mv V V1 F F1) (hV : (V2 = V1 ∧ nb' = nb) ∨ (V2 = V1.setCell ⟨h7, 0, none⟩ (.bool true) ∧ nb' = true)) : (∀ B, KeepsFrom B V V2) ∧ KT V V2 ∧ LaI Bc h7 sc X F0 N' nb' F1 V2 := by
  have n7 : ¬ F h7 := hj.mx.notBk hj.b7 (by decide) (by decide) (by decide)
  have b71 : Bk V1 h7 4 #[.bool nb] := hj.b7.far' hm.far n7
  have n71 : ¬ F1 h7 := hX1.notBk b71 (by decide) (by decide) (by decide)
  have hXV := hj.far.size
  have h12 : Far (fun g => g = h7) V1 V2 ∧ Bk V2 h7 4 #[.bool nb'] := by
    rcases hV with ⟨rfl, rfl⟩ | ⟨rfl, rfl⟩
    · exact ⟨Far.refl _ _, b71⟩
    · exact ⟨(Far.refl _ V1).set _ _ fun _ => rfl, b71.set 0 _⟩
  have hf : Far (fun g => g = h7 ∨ F g) V V2 := (hm.far.mono fun _ _ e => .inr e).trans h12.1 fun _ _ e => .inl e
  refine ⟨fun B => ⟨hf.size, fun g o _ hg ho => (hf.block g (Array.getElem?_eq_some_iff.1 hg).1 fun e => ?_).trans hg⟩, KT.ofFar hf (by omega) fun g hg => ?_, ⟨hX1.kept h12.1 fun g hg e => n71 (e ▸ hg), fun g hg => ?_, h12.2, hj.far.trans hf fun g hg e => ?_⟩⟩
  · rcases e with rfl | e
    · have := hj.b7
      unfold Bk at this
      rw [hg] at this
      cases this
      cases ho
    · have := hj.mx.cells e hg
      rw [ho] at this
      cases this
  · rcases hg with rfl | hg
    · refine ⟨by omega, fun cs t hb => ?_⟩
      have := bk_type hb hj.b7
      subst this
      decide
    · refine ⟨fun e => ?_, fun cs t hb => hj.mx.types hg cs t hb⟩
      subst e
      rcases hj.more _ hg with e | e
      · exact ht e
      · omega
  · rcases hm.more g hg with e | e
    · exact hj.more g e
    · exact .inr (by omega)
  · rcases e with e | e
    · exact .inl e
    · rcases hj.more g e with e | e
      · exact .inr e
      · omega
section
variable {w : World} {Ba Bb Bc p q sc : Nat} {Fa Fb Fc : Nat → Prop} {A B C : Nat → Nat → Bool}
set_option maxHeartbeats 16000000
set_option maxRecDepth 100000
theorem lay_any (hc : Mx w Bc Fc sc C) (ha : Mx w Ba Fa p A) (hb : Mx w Bb Fb q B) (hsc : sc = p * q) (hT : Tab w) (hTF : ¬ Fc 0) : Calls Tryd.prog 89 #[.pointer (some ⟨Bc, 0, none⟩), .pointer (some ⟨Ba, 0, none⟩), .pointer (some ⟨Bb, 0, none⟩)] w fun e w' => e = .returned (.bool (newL C (kronL q (cellsL A p) (cellsL B q)))) ∧ ∃ F', Mx w' Bc F' sc (joinM C (kronM A B q)) ∧ Mv w w' Fc F' := by
  obtain ⟨p1, p2⟩ := ha.sides
  obtain ⟨q1, q2⟩ := hb.sides
  obtain ⟨c1, c2⟩ := hc.sides
  have hwa := ha.within
  have hwb := hb.within
  have hcanA := cells_canon p2 hwa
  have hcanB := cells_canon q2 hwb
  have hclt := hc.lt
  obtain ⟨h3, hh3⟩ : ∃ h, h = w.heap.size := ⟨_, rfl⟩
  obtain ⟨h7, hh7⟩ : ∃ h, h = h3 + 1 := ⟨_, rfl⟩
  obtain ⟨h8, hh8⟩ : ∃ h, h = h7 + 1 := ⟨_, rfl⟩
  obtain ⟨W1, hW1⟩ : ∃ V, V = (w.alloc (.cells #[.pointer (some ⟨Bc, 0, none⟩)] 24)).alloc (.cells #[.bool false] 4) := ⟨_, rfl⟩
  obtain ⟨W2, hW2⟩ : ∃ V, V = W1.alloc (.cells #[.int .i64 (q : Nat)] 3) := ⟨_, rfl⟩
  have hf1 : Far (fun _ => False) w W1 := hW1 ▸ ((Far.refl _ w).alloc _).alloc _
  have hf2 : Far (fun _ => False) w W2 := hW2 ▸ hf1.alloc _
  have z1 : W1.heap.size = h8 := by rw [hW1]; simp [hh8, hh7, hh3]
  have b3 : Bk W2 h3 24 #[.pointer (some ⟨Bc, 0, none⟩)] := hW2 ▸ ((hW1 ▸ (Bk.new hh3).alloc _ : Bk W1 h3 _ _).alloc _)
  have b7 : Bk W2 h7 4 #[.bool false] := hW2 ▸ ((hW1 ▸ Bk.new (by simp [hh7, hh3]) : Bk W1 h7 _ _).alloc _)
  have b8 : Bk W2 h8 3 #[.int .i64 (q : Nat)] := hW2 ▸ Bk.new z1.symm
  have SB := (hb.still hf1).side
  have CA := qCells_any (ha.still hf2)
  have CB := Lib.hid (fun (V : World) (hf : Far (fun _ => False) W2 V) => qCells_any ((hb.still hf2).still hf))
  have hc' := Lib.hid hc
  have hh3' := Lib.hid hh3
  have hh7' := Lib.hid hh7
  have hh8' := Lib.hid hh8
  have hW1' := Lib.hid hW1
  have hW2' := Lib.hid hW2
  have hf2' := Lib.hid hf2
  have b3' := Lib.hid b3
  have b7' := Lib.hid b7
  have b8' := Lib.hid b8
  have z1' := Lib.hid z1
  have hwa' := Lib.hid hwa
  have hwb' := Lib.hid hwb
  have hcanA' := Lib.hid hcanA
  have hcanB' := Lib.hid hcanB
  have hclt' := Lib.hid hclt
  have hsc' := Lib.hid hsc
  clear hc ha hb hh3 hh7 hh8 hW1 hW2 hf1 hf2 b3 b7 b8 z1 hwa hwb hcanA hcanB hclt hsc
  refine (callsIn_wide (n := 10)).1 (callsIn_of_wp_marks Tryd.func89 rfl trivial (wpIn_wide.2 ?_) rfl)
  simp only [Tryd.ntmps89, List.size_toArray, List.length_cons, List.length_nil, Nat.reduceAdd, Nat.reduceSub, Array.replicate_succ, Array.replicate_zero, List.push_toArray, List.append_toArray, List.nil_append, List.cons_append]
  go_upto_region 2 with fail
  rw [← hh3'.out, ← hh7'.out, ← hW1'.out]
  go_wp2_with fail
  refine SB.mono ?_
  rintro e w' ⟨rfl, rfl⟩
  clear SB
  go_upto_region 3 with fail
  rw [z1'.out, ← hW2'.out]
  go_wp2_with fail
  refine CA.mono ?_
  rintro e W3 ⟨ba, va, rfl, haX, haO, haz, hf3⟩
  have CB3 := CB.out W3 hf3
  have hf3' := Lib.hid hf3
  have haX' := Lib.hid haX
  have haO' := Lib.hid haO
  clear CA CB hf3 haX haO
  go_wp2_with fail
  refine CB3.mono ?_
  rintro e W4 ⟨bb, vb, rfl, hbX, hbO, hbz, hf4⟩
  obtain ⟨h10, hh10⟩ : ∃ h, h = W4.heap.size := ⟨_, rfl⟩
  obtain ⟨W0, hW0⟩ : ∃ V, V = W4.alloc (.cells #[.func (.func 112) #[] #[.pointer (some ⟨bb, 0, none⟩)]] 124) := ⟨_, rfl⟩
  have hf5 : Far (fun _ => False) W4 W0 := hW0 ▸ (Far.refl _ W4).alloc _
  have b10 : Bk W0 h10 124 #[.func (.func 112) #[] #[.pointer (some ⟨bb, 0, none⟩)]] := hW0 ▸ Bk.new hh10
  have hf20 : Far (fun _ => False) W2 W0 := hf3'.out.then (hf4.then hf5)
  have hfw0 := Lib.hid (hf2'.out.then hf20)
  have hTw0 := Lib.hid (hT.still hfw0.out)
  have b30 := Lib.hid (b3'.out.far' hf20 id)
  have b70 := Lib.hid (b7'.out.far' hf20 id)
  have b80 := Lib.hid (b8'.out.far' hf20 id)
  have b10' := Lib.hid b10
  have haX0 := Lib.hid (haX'.out.far' (hf4.then hf5) id)
  have haO0 := Lib.hid (row_same haO'.out fun k hk hl => (hf4.then hf5).block k hl id)
  have hbX0 := Lib.hid (hbX.far' hf5 id)
  have hbO0 := Lib.hid (row_same hbO fun k hk hl => hf5.block k hl id)
  have hh10' := Lib.hid hh10
  have hW0' := Lib.hid hW0
  have hz10 := Lib.hid (show w.heap.size ≤ h10 by rw [hh10]; exact (hf2'.out.then (hf3'.out.then hf4)).size)
  have hzb := Lib.hid (show w.heap.size ≤ bb ∧ w.heap.size ≤ W3.heap.size from ⟨Nat.le_trans (hf2'.out.then hf3'.out).size hbz, (hf2'.out.then hf3'.out).size⟩)
  clear CB3 hf4 hf5 hf20 b10 hbX hbO hbz haz hh10 hW0 hf3' haX' haO' b3' b7' b8'
  go_upto_region 4 with fail
  rw [← hh10'.out, ← hW0'.out]
  go_wp2_with fail
  refine (wpIn_wide (n := 10)).1 ?_
  obtain ⟨aoa, capa, rfl⟩ := q_form haO0.out
  obtain ⟨aob, capb, rfl⟩ := q_form hbO0.out
  obtain ⟨La, hLa⟩ : ∃ L, placesL A p = L := ⟨_, rfl⟩
  obtain ⟨Lb, hLb⟩ : ∃ L, placesL B q = L := ⟨_, rfl⟩
  have hLfa : La.length ≤ 256 := by have := placesL_few A p2; rw [hLa] at this; exact this
  have hLpa : ∀ y ∈ La, y.1 < 16 ∧ y.2 < 16 := fun y hy => by
    rw [← hLa] at hy
    obtain ⟨h1, h2, _⟩ := mem_placesL.1 hy
    have := lns_le p2
    omega
  have hLfb : Lb.length ≤ 256 := by have := placesL_few B q2; rw [hLb] at this; exact this
  have hLpb : ∀ y ∈ Lb, y.1 < 16 ∧ y.2 < 16 := fun y hy => by
    rw [← hLb] at hy
    obtain ⟨h1, h2, _⟩ := mem_placesL.1 hy
    have := lns_le q2
    omega
  rw [hLa] at haO0 haX0 hcanA'
  rw [hLb] at hbO0 hbX0 hcanB'
  clear hLa hLb
  have hI0 : ∃ F, LaI Bc h7 sc W0 Fc (addL C (kronL q [] (cellsL B q))) (newL C (kronL q [] (cellsL B q))) F W0 := ⟨Fc, (hc'.out.still hfw0.out).congr fun r c => addL_nil C r c, fun k hk => .inl hk, b70.out, Far.refl _ _⟩
  refine name_frame fun T hTT => ?_
  refine range_okH (by decide) (by rw [← hTT]; rfl) (enters_of Tryd.func112 (by kernel_rfl) rfl) (qcells_seq (10 - 1) (by decide) ba W2.heap.size _ A La hLfa hLpa W0 haX0.out haO0.out hTw0.out) KT.trans (fun V l o o' hl h ho => KT.put (B := W0.heap.size) V l o o' hTw0.out.lt hl h ho) (fun _ => rfl)
    (fun pre V => ∃ F, LaI Bc h7 sc W0 Fc (addL C (kronL q pre (cellsL B q))) (newL C (kronL q pre (cellsL B q))) F V) (fun _ _ _ => False) ?own ?ownx hI0
    (fun pre y a' V => ((pre ++ [y]) <+: cellsF A La.length La) ∧ ∃ k F, LaI Bc h7 sc W0 Fc (addL C (kronL q pre (cellsL B q))) (newL C (kronL q pre (cellsL B q))) F V ∧ Bk V k 3 #[.int .i64 (y.1 : Nat)] ∧ Bk V (k + 1) 3 #[.int .i64 (y.2 : Nat)] ∧ W0.heap.size ≤ k ∧
      a' = { tmps := ((((T.setIfInBounds 24 (.int .i64 (y.1 : Nat))).setIfInBounds 25 (.int .i64 (y.2 : Nat))).setIfInBounds 11 (.pointer (some ⟨k, 0, none⟩))).setIfInBounds 12 (.pointer (some ⟨k + 1, 0, none⟩))), defers := [] }) ?hAx ?assign ?body ?done ?stop
  case own =>
    rintro u X Y row ⟨F, h⟩ hg hr
    exact ⟨F, h.go hg hr⟩
  case ownx => exact fun c u A B row h _ _ => h
  case stop => exact fun D c pre V _ _ h _ => h.elim
  case hAx =>
    rintro pre y a' u X Y row ⟨h9, k, F, hi, hk1, hk2, hz, e⟩ hg hr
    exact ⟨h9, k, F, hi.go hg hr, hk1.kept hg hr, hk2.kept hg hr, hz, e⟩
  case assign =>
    intro l pre y V KK hI hok hK
    obtain ⟨F, hi⟩ := hI
    subst hTT
    simp only [encP, List.zip_toArray, List.zip_cons_cons, List.zip_nil_right, List.foldl_toArray', List.foldl_cons, List.foldl_nil, List.setIfInBounds_toArray, List.set_cons_succ, List.set_cons_zero] at hK ⊢
    gi_wp2
    have hf : Far (fun _ => False) V ((V.alloc (.cells #[.int .i64 (y.1 : Nat)] 3)).alloc (.cells #[.int .i64 (y.2 : Nat)] 3)) := ((Far.refl _ V).alloc _).alloc _
    have hsz := hi.far.size
    exact hK _ _ (keeps_far hf fun _ h => h.elim) (KT.far hf (Nat.lt_of_lt_of_le hTw0.out.lt hsz)) ⟨F, hi.still hf⟩ ⟨hok, V.heap.size, F, hi.still hf, (Bk.new rfl).alloc _, Bk.new (by simp), hsz, rfl⟩
  case body =>
    rintro l pre y a' X hl ⟨r0, hr0⟩ _ ⟨hpre, k, F0, hi, hk1, hk2, hz, rfl⟩
    have hm : A y.1 y.2 = true := told_there (hpre.subset (by simp))
    obtain ⟨hy1, hy2⟩ := hwa'.out _ _ hm
    have e7 := hh7'.out
    have e8 := hh8'.out
    have e3 := hh3'.out
    have hnF : ∀ g, w.heap.size ≤ g → g ≠ h7 → ¬ (g = h7 ∨ Fc g) := fun g h1 h2 h => h.elim h2 fun h => by have := hclt'.out g h; omega
    have hnF0 : ∀ g, w.heap.size ≤ g → g < W0.heap.size → ¬ F0 g := fun g h1 h2 h => (hi.more g h).elim (fun h => by have := hclt'.out g h; omega) fun h => by omega
    have b3X := b30.out.far' hi.far (hnF _ (by omega) (by omega))
    have b8X := b80.out.far' hi.far (hnF _ (by omega) (by omega))
    have b10X := b10'.out.far' hi.far (hnF _ hz10.out fun e => by subst e; have := bk_type b10'.out b70.out; revert this; decide)
    have bbX := hbX0.out.far' hi.far (hnF _ hzb.out.1 fun e => by subst e; have := bk_type hbX0.out b70.out; revert this; decide)
    have boX := row_same hbO0.out fun g hg hgl => hi.far.block g hgl (hnF _ (by obtain ⟨h1, _⟩ := own_type hbO0.out hg; have := hzb.out.2; omega) fun e => by
      subst e
      obtain ⟨_, _, cs, hb9⟩ := own_type hbO0.out hg
      have := bk_type hb9 b70.out
      revert this; decide)
    have hTl := hT.lt
    have hTX : Tab X := hTw0.out.far hi.far fun h => h.elim (fun e => by omega) hTF
    have hzX := hi.far.size
    have hF0t' : ¬ F0 0 := fun h => (hi.more _ h).elim hTF fun h => by have := hTw0.out.lt; omega
    have hL2 : ∀ V N nb F, LaI Bc h7 sc X F0 N nb F V → KT X V := fun V N nb F h => KT.ofFar h.far hTX.lt fun g hg => by
      rcases hg with rfl | hg
      · refine ⟨by omega, fun cs t hb => ?_⟩
        have := bk_type hb hi.b7
        subst this
        decide
      · refine ⟨fun e => ?_, fun cs t hb => hi.mx.types hg cs t hb⟩
        subst e
        exact (hi.more _ hg).elim hTF fun h => by have := hTw0.out.lt; omega
    have c10 : X.cell? ⟨h10, 0, none⟩ = some (.func (.func 112) #[] #[.pointer (some ⟨bb, 0, none⟩)]) := b10X.cell 0
    have hj0 : ∃ F, LaI Bc h7 sc X F0 (addL C (kronL q pre (cellsL B q) ++ kronR q y [])) (newL C (kronL q pre (cellsL B q) ++ kronR q y [])) F X := ⟨F0, by rw [kronR_nil, List.append_nil]; exact hi.mx, fun g hg => .inl hg, by rw [kronR_nil, List.append_nil]; exact hi.b7, Far.refl _ _⟩
    have hi' := Lib.hid hi
    have hj0' := Lib.hid hj0
    have hk1' := Lib.hid hk1
    have hk2' := Lib.hid hk2
    have b3X' := Lib.hid b3X
    have b8X' := Lib.hid b8X
    have bbX' := Lib.hid bbX
    have boX' := Lib.hid boX
    have hTX' := Lib.hid hTX
    have hr0' := Lib.hid hr0
    have hpre' := Lib.hid hpre
    have hL2' := Lib.hid hL2
    have hnF0' := Lib.hid hnF0
    have hF0t := Lib.hid hF0t'
    subst hTT
    simp only [List.setIfInBounds_toArray, List.set_cons_succ, List.set_cons_zero]
    clear hpre hm hi hk1 hk2 b3X b8X b10X bbX boX hTX hr0 hL2 hnF hnF0 hj0 e7 e8 e3 hF0t'
    gi_wp2
    refine name_frame fun T2 hT2 => ?_
    refine range_in hr0'.out (by decide) (by rw [← hT2]; rfl) (enters_of Tryd.func112 (by kernel_rfl) rfl) (qcells_seq (10 - 1 - 1 - 1) (by decide) bb W3.heap.size _ B Lb hLfb hLpb X bbX'.out boX'.out hTX'.out) KT.trans (fun V l o o' hl h ho => KT.put (B := X.heap.size) V l o o' hTX'.out.lt hl h ho) (fun _ => rfl)
      (fun pre2 V => (∃ F, LaI Bc h7 sc X F0 (addL C (kronL q pre (cellsL B q) ++ kronR q y pre2)) (newL C (kronL q pre (cellsL B q) ++ kronR q y pre2)) F V) ∧ KeepsFrom W0.heap.size X V) (fun _ _ _ => False) ?own2 ?ownx2 ⟨hj0'.out, KeepsFrom.refl _ _⟩
      (fun pre2 z a' V => ((pre2 ++ [z]) <+: cellsF B Lb.length Lb) ∧ a' = { tmps := ((((T2.setIfInBounds 27 (.int .i64 (z.1 : Nat))).setIfInBounds 28 (.int .i64 (z.2 : Nat))).setIfInBounds 13 (.int .i64 (z.1 : Nat))).setIfInBounds 14 (.int .i64 (z.2 : Nat))), defers := [] }) ?hAx2 ?assign2 ?body2 ?done2 ?stop2
    case own2 =>
      rintro u P Q row ⟨⟨F, h⟩, h2⟩ hg hr
      exact ⟨⟨F, h.go hg hr⟩, ownFrom_keepsFrom (β := Unit) (Nat.le_refl _) () P Q row h2 hg hr⟩
    case ownx2 => exact fun c u P Q row h _ _ => h
    case stop2 => exact fun c pre V _ h => h.elim
    case hAx2 => exact fun pre z a' u P Q row h _ _ => h
    case assign2 =>
      intro l2 pre2 z V KK hI hok hK
      have hK' := hK _ V (KeepsFrom.refl _ _) (KT.refl _) hI ⟨hok, rfl⟩
      subst hT2
      simp only [encP, List.zip_toArray, List.zip_cons_cons, List.zip_nil_right, List.foldl_toArray', List.foldl_cons, List.foldl_nil, List.setIfInBounds_toArray, List.set_cons_succ, List.set_cons_zero] at hK' ⊢
      gi_wp2
      exact hK'
    case body2 =>
      rintro l2 pre2 z a' V hl2 _ ⟨⟨F, hj⟩, hkf⟩ ⟨hpre2, rfl⟩
      have hm2 : B z.1 z.2 = true := told_there (hpre2.subset (by simp))
      obtain ⟨hz1, hz2⟩ := hwb'.out _ _ hm2
      have e3 := hh3'.out
      have e7 := hh7'.out
      have e8 := hh8'.out
      have hh0 := hfw0.out.size
      have b3V := b3X'.out.far' hj.far fun h => h.elim (fun e => by omega) (hnF0'.out _ (by omega) b30.out.lt)
      have b8V := b8X'.out.far' hj.far fun h => h.elim (fun e => by omega) (hnF0'.out _ (by omega) b80.out.lt)
      have h7l := b70.out.lt
      have k1V := hk1'.out.far' hj.far fun h => h.elim (fun e => by omega) (hi'.out.mx.notBk hk1'.out (by decide) (by decide) (by decide))
      have k2V := hk2'.out.far' hj.far fun h => h.elim (fun e => by omega) (hi'.out.mx.notBk hk2'.out (by decide) (by decide) (by decide))
      have c3 : V.cell? ⟨h3, 0, none⟩ = some (.pointer (some ⟨Bc, 0, none⟩)) := b3V.cell 0
      have c8 : V.cell? ⟨h8, 0, none⟩ = some (.int .i64 (q : Nat)) := b8V.cell 0
      have c11 : V.cell? ⟨k, 0, none⟩ = some (.int .i64 (y.1 : Nat)) := k1V.cell 0
      have c12 : V.cell? ⟨k + 1, 0, none⟩ = some (.int .i64 (y.2 : Nat)) := k2V.cell 0
      obtain ⟨m1, hm1⟩ : ∃ m, m = y.1 * q := ⟨_, rfl⟩
      obtain ⟨m2, hm2'⟩ : ∃ m, m = y.2 * q := ⟨_, rfl⟩
      obtain ⟨i1, hi1⟩ : ∃ m, m = m1 + z.1 := ⟨_, rfl⟩
      obtain ⟨i2, hi2⟩ : ∃ m, m = m2 + z.2 := ⟨_, rfl⟩
      have hl1 : i1 < sc := by rw [hi1, hm1, hsc'.out]; exact kron_lt hy1 hz1
      have hl2 : i2 < sc := by rw [hi2, hm2', hsc'.out]; exact kron_lt hy2 hz2
      have hmu1 : (y.1 : Int) * (q : Int) = (m1 : Int) := by rw [hm1, Int.natCast_mul]
      have hmu2 : (y.2 : Int) * (q : Int) = (m2 : Int) := by rw [hm2', Int.natCast_mul]
      have had1 : (m1 : Int) + (z.1 : Int) = (i1 : Int) := by omega
      have had2 : (m2 : Int) + (z.2 : Int) = (i2 : Int) := by omega
      have hm1b : m1 ≤ 1024 := by omega
      have hm2b : m2 ≤ 1024 := by omega
      obtain ⟨K, hKK⟩ : ∃ K, K = kronL q pre (cellsL B q) ++ kronR q y pre2 := ⟨_, rfl⟩
      have hK2 : kronL q pre (cellsL B q) ++ kronR q y (pre2 ++ [z]) = K ++ [(i1, i2)] := by
        rw [kronR_app, ← List.append_assoc, ← hKK, hi1, hi2, hm1, hm2']
      rw [← hKK] at hj
      have S1 := qset_yes hj.mx i1 i2 hl1 hl2
      obtain ⟨bq, hbq⟩ : ∃ b, addL C K i1 i2 = b := ⟨_, rfl⟩
      rw [hbq] at S1
      have hnew : newL C (K ++ [(i1, i2)]) = (newL C K || !bq) := by rw [newL_app, ← hbq]
      have hj' := Lib.hid hj
      have hkf' := Lib.hid hkf
      have hK2' := Lib.hid hK2
      have hnew' := Lib.hid hnew
      subst hT2
      simp only [List.setIfInBounds_toArray, List.set_cons_succ, List.set_cons_zero]
      clear hpre2 hm2 hj hkf b3V b8V k1V k2V hK2 hKK hnew hbq hm1 hm2' hi1 hi2 hl1 hl2 e3 e7 e8 hh0
      cases bq with
      | true =>
        gi_wp2_with (refine ⟨trivial, ?_⟩; refine (CallsIn.inRound l2 (callsIn_wide.2 S1)).mono ?_; rintro e V1 ⟨rfl, F1, hX1, hm1⟩; have b71 : Bk V1 h7 4 #[.bool (newL C K)] := hj'.out.b7.far' hm1.far (hj'.out.mx.notBk hj'.out.b7 (by decide) (by decide) (by decide)); have g7 : V1.cell? ⟨h7, 0, none⟩ = some (.bool (newL C K)) := b71.cell 0; have fr7 := b71.free 0; have hX1' := Lib.hid hX1; have hm1' := Lib.hid hm1; clear hX1 hm1 S1 c3 c8 c11 c12)
        obtain ⟨k1, k2, k3⟩ := hj'.out.next (nb' := newL C K || !true) hF0t.out hTX'.out.lt (by have := hT.lt; have := hh7'.out; have := hh3'.out; omega) hX1'.out hm1'.out (V2 := V1) (.inl ⟨rfl, by simp⟩)
        refine ⟨k1 _, k2, ⟨F1, ?_⟩, hkf'.out.trans (k1 _)⟩
        rw [hK2'.out, hnew'.out]
        exact ⟨k3.mx.congr fun r c => addL_app C K i1 i2 r c, k3.more, k3.b7, k3.far⟩
      | false =>
        gi_wp2_with (refine ⟨trivial, ?_⟩; refine (CallsIn.inRound l2 (callsIn_wide.2 S1)).mono ?_; rintro e V1 ⟨rfl, F1, hX1, hm1⟩; have b71 : Bk V1 h7 4 #[.bool (newL C K)] := hj'.out.b7.far' hm1.far (hj'.out.mx.notBk hj'.out.b7 (by decide) (by decide) (by decide)); have g7 : V1.cell? ⟨h7, 0, none⟩ = some (.bool (newL C K)) := b71.cell 0; have fr7 := b71.free 0; have hX1' := Lib.hid hX1; have hm1' := Lib.hid hm1; clear hX1 hm1 S1 c3 c8 c11 c12)
        obtain ⟨k1, k2, k3⟩ := hj'.out.next (nb' := newL C K || !false) hF0t.out hTX'.out.lt (by have := hT.lt; have := hh7'.out; have := hh3'.out; omega) hX1'.out hm1'.out (V2 := V1.setCell ⟨h7, 0, none⟩ (.bool true)) (.inr ⟨rfl, by simp⟩)
        refine ⟨k1 _, k2, ⟨F1, ?_⟩, hkf'.out.trans (k1 _)⟩
        rw [hK2'.out, hnew'.out]
        exact ⟨k3.mx.congr fun r c => addL_app C K i1 i2 r c, k3.more, k3.b7, k3.far⟩
    case done2 =>
      rintro xs2 V rfl ⟨⟨F, hj⟩, hkf⟩
      have hj' := Lib.hid hj
      have hkf' := Lib.hid hkf
      subst hT2
      clear hj hkf
      gi_wp2
      have hj := hj'.out
      rw [hcanB'.out] at hj
      have hh7l := b70.out.lt
      have hzW := hi'.out.far.size
      refine ⟨hkf'.out, hL2'.out _ _ _ _ hj, F, ⟨?_, fun g hg => ?_, ?_, hi'.out.far.trans hj.far fun g hg e => ?_⟩⟩
      · rw [kronL_app]
        exact hj.mx
      · rcases hj.more g hg with e | e
        · exact hi'.out.more g e
        · exact .inr (by omega)
      · rw [kronL_app]
        exact hj.b7
      · rcases e with e | e
        · exact .inl e
        · rcases hi'.out.more g e with e | e
          · exact .inr e
          · omega
  case done =>
    rintro D xs V hD rfl ⟨F, hi⟩ hK
    have c7 : V.cell? ⟨h7, 0, none⟩ = some (.bool (newL C (kronL q (cellsL A p) (cellsL B q)))) := by have := hi.b7.cell 0; rw [hcanA'.out] at this; exact this
    have hmx := hi.mx
    rw [hcanA'.out] at hmx
    have hmx' := Lib.hid hmx
    have hmo := Lib.hid hi.more
    have hfa := Lib.hid hi.far
    have m2 := Lib.hid (Marks.cons (Marks.nil W0 w.heap.size) (Marks.nil V w.heap.size) (Nat.le_trans hfw0.out.size hD) hD hK)
    subst hTT
    clear hi hK hmx
    go_wp2_with fail
    refine leave_marks m2.out fun W' hfW => ?_
    refine ⟨.bool (newL C (kronL q (cellsL A p) (cellsL B q))), by simp [results, Tryd.f89, go_sem], rfl, F, ?_, ⟨?_, fun g hg => ?_⟩⟩
    · refine (hmx'.out.kept hfW fun g hg e => ?_).congr fun r c => (addL_kron (by omega) hwa'.out hwb'.out r c).symm
      have := hmx'.out.cells hg e.2
      cases this
    · exact ((hfw0.out.mono (G := Fc) fun _ _ h => h.elim).trans hfa.out fun g hg e => e.elim (fun e => by have := hh7'.out; have := hh3'.out; omega) id).trans hfW fun g hg e => by have := e.1; omega
    · rcases hmo.out g hg with e | e
      · exact .inl e
      · exact .inr (Nat.le_trans hfw0.out.size e)
end
end Go.Proofs.YtkobbcmndneajaaDoor
