/-
  QRAwakeN: QRAdd, QRAwakeM.
-/
import Derived.Test.YtjolkhiggcmoiaaGreatDoorQRGain
import Derived.Deep.RegionHeld3
import Derived.Laws.EntriesVeiled
import Derived.Test.YtjolkhiggcmoiaaGreatDoorQCanon
import Derived.Test.YtjolkhiggcmoiaaGreatDoorSortLay
import Derived.Shelf.SlSortCmp.NoneTotal
/-! ## QRAdd: A step more: add, whatever it tells of to. -/
namespace Go.Proofs.YtjolkhiggcmoiaaGreatDoor
open Go.RowKit Go.Shelf
set_option linter.unusedVariables false
set_option linter.unusedSimpArgs false
theorem gain_old {C : Nat → Nat → Bool} {G : Nat → Bool} {j r : Nat} (h : (C r j || G r) = true) : gainC C (addG (fun x => C x j) G r) j = gainC C G j := by rw [addG_old h]
theorem gain_new {C : Nat → Nat → Bool} {G : Nat → Bool} {s j r : Nat} (hw : ∀ a b, C a b = true → a < s ∧ b < s) (h : (C r j || G r) = false) : rowS (gainC C G j) r (colsM C s j ++ [j]) = gainC C (addG (fun x => C x j) G r) j := by
  rw [Bool.or_eq_false_iff] at h
  funext a b
  unfold rowS
  rw [Bool.eq_iff_iff]
  simp only [Bool.or_eq_true, Bool.and_eq_true, decide_eq_true_eq, List.mem_append, List.mem_singleton, gainC_iff, mem_colsM, addG_iff]
  constructor
  · rintro ((h1 | ⟨h1, h2⟩) | ⟨rfl, h2⟩)
    · exact .inl h1
    · exact .inr ⟨.inl h1, h2⟩
    · exact .inr ⟨.inr ⟨rfl, h.1⟩, h2.symm.imp id fun h => h.2⟩
  · rintro (h1 | ⟨h1 | ⟨rfl, _⟩, h2⟩)
    · exact .inl (.inl h1)
    · exact .inl (.inr ⟨h1, h2⟩)
    · exact .inr ⟨rfl, h2.symm.imp (fun h => ⟨(hw _ _ h).2, h⟩) id⟩
section
variable {FX : Nat → Prop} {B ps pb pc hk hj hb ht hg b0 gb cb s i j : Nat} {Fb : Nat → Prop} {tf : Nat} {tl : Array Value} {TI : List (Nat × Nat) → (Nat → Prop) → World → Prop} {M C : Nat → Nat → Bool}
/-- What is there while add goes back along steps. -/
def AI (FX : Nat → Prop) (B ps pb pc hk hj hb ht hg b0 gb cb s i j : Nat) (Fb : Nat → Prop) (tf : Nat) (tl : Array Value) (TI : List (Nat × Nat) → (Nat → Prop) → World → Prop) (M C : Nat → Nat → Bool) (G : Nat → Bool) (F : Nat → Prop) (V : World) : Prop :=
  ∃ Fc Ft told, GB FX B ps pb pc hk hj hb ht b0 gb cb s j (colsM C s j ++ [j]) Fb (tnM (putM M i j)) tf tl TI (gainC C G j) Fc Ft told V ∧ TM C (gainC C G j) told ∧ Bk V hg 106 #[.func (.func 92) #[] #[.pointer (some ⟨hk, 0, none⟩), .pointer (some ⟨hj, 0, none⟩), .pointer (some ⟨hb, 0, none⟩), .pointer (some ⟨ht, 0, none⟩)]] ∧ F = CF Fc Ft
section
set_option maxHeartbeats 8000000
set_option maxRecDepth 100000
theorem AI.gain (hT : Tel s tf tl TI) (hs : s ≤ 1024) (hjs : j < s) (hw : ∀ a b, C a b = true → a < s ∧ b < s) (hgx : FX hg) {G : Nat → Bool} {F : Nat → Prop} {V : World} (h : AI FX B ps pb pc hk hj hb ht hg b0 gb cb s i j Fb tf tl TI M C G F V) (r : Nat) (hr : r < s) :
    Calls Tryz.prog 92 #[.int .i64 (r : Nat), .pointer (some ⟨hk, 0, none⟩), .pointer (some ⟨hj, 0, none⟩), .pointer (some ⟨hb, 0, none⟩), .pointer (some ⟨ht, 0, none⟩)] V fun e w' => e = .returned (.bool (!(C r j || G r))) ∧ ∃ F', AI FX B ps pb pc hk hj hb ht hg b0 gb cb s i j Fb tf tl TI M C (addG (fun x => C x j) G r) F' w' ∧ Mv V w' F F' := by
  obtain ⟨Fc, Ft, told, hG, hm, hB, rfl⟩ := h
  have hc := colsM_le C s j
  refine (gain_any hT (fun c hc => by
    rcases List.mem_append.1 hc with h | h
    · exact (mem_colsM.1 h).1
    · rw [List.mem_singleton] at h; omega) (by rw [List.length_append, List.length_singleton]; omega) hs hjs hG hm r hr).mono ?_
  rintro e w' ⟨rfl, Fc', Ft', told', hG', hm', hv⟩
  have hB' : Bk w' hg _ _ := hB.far' hv.far fun h => h.elim (fun h => (hG.x1 _ hgx).1 h) fun h => (hG.x1 _ hgx).2 h
  rw [gainC_col] at hG' hm' ⊢
  refine ⟨rfl, CF Fc' Ft', ⟨Fc', Ft', told', ?_, ?_, hB', rfl⟩, hv⟩
  · cases hb : (C r j || G r) with
    | true => rw [hb, if_pos rfl] at hG'; rw [gain_old hb]; exact hG'
    | false => rw [hb, if_neg (by simp), gain_new hw hb] at hG'; exact hG'
  · cases hb : (C r j || G r) with
    | true => rw [hb, if_pos rfl] at hm'; rw [gain_old hb]; exact hm'
    | false => rw [hb, if_neg (by simp), gain_new hw hb] at hm'; exact hm'
theorem flw_add (hT : Tel s tf tl TI) (hs : s ≤ 1024) (hjs : j < s) (hw : ∀ a b, C a b = true → a < s ∧ b < s) (hgx : FX hg) :
    Flw s (fun x => C x j) (fun x => colsM (tnM (putM M i j)) s x) FX (AI FX B ps pb pc hk hj hb ht hg b0 gb cb s i j Fb tf tl TI M C) 23 (.pointer (some ⟨pb, 0, none⟩)) 93 #[.pointer (some ⟨hg, 0, none⟩)] where
  within := fun x hx j hj => (mem_colsM.1 hj).1
  few := fun x => Nat.le_trans (colsM_le _ _ _) hs
  erow := enters_of Tryz.func23 (by kernel_rfl) rfl
  ego := enters_of Tryz.func93 (by kernel_rfl) rfl
  lt := by
    rintro G F V ⟨Fc, Ft, told, hG, hm, hB, rfl⟩ k (hk | hk)
    · exact hG.mc.lt k hk
    · exact hT.lt _ _ _ hG.ti k hk
  still := by
    rintro G F V V' H ⟨Fc, Ft, told, hG, hm, hB, rfl⟩ hf h1 h2
    exact ⟨Fc, Ft, told, hG.kept hT hf h2 (fun k hk => h1 k (.inl hk)) fun k hk => h1 k (.inr hk), hm, hB.far' hf (h2 _ hgx), rfl⟩
  row := by
    rintro G F V ⟨Fc, Ft, told, hG, hm, hB, rfl⟩ x hx
    refine (qrow_any hG.mb hG.kt x hx).mono ?_
    rintro e w' ⟨v, rfl, h1, h2⟩
    exact ⟨v, _, rfl, h1, h2⟩
  go := by
    intro G F V h x r hx hr
    have GN := AI.gain hT hs hjs hw hgx h r hr
    obtain ⟨Fc, Ft, told, hG, hm, hB, rfl⟩ := h
    have c0 : V.cell? ⟨hg, 0, none⟩ = some (.func (.func 92) #[] #[.pointer (some ⟨hk, 0, none⟩), .pointer (some ⟨hj, 0, none⟩), .pointer (some ⟨hb, 0, none⟩), .pointer (some ⟨ht, 0, none⟩)]) := hB.cell 0
    have ent : ∀ args w, (callFunc 92 args).run Tryz.prog w = .ok (.enter 92 args) w := enters_of Tryz.func92 (by kernel_rfl) rfl
    obtain ⟨b, hb⟩ : ∃ b, (!(C r j || G r)) = b := ⟨_, rfl⟩
    rw [hb] at GN
    rw [hb]
    clear hG hm hB hT hw hgx hb
    go_enter Tryz.func93, Tryz.ntmps93
    go_wp2_with fail
    refine GN.mono ?_
    rintro e w' ⟨rfl, F', hA, hv⟩
    have hA' := Lib.hid hA
    have hv' := Lib.hid hv
    clear GN hA hv
    go_wp2_with fail
    go_ret
    exact ⟨rfl, F', hA'.out, hv'.out⟩
end
theorem rf_cells {W w1 : World} (hb : Far (fun _ => False) W w1) : (∀ b o, b < W.heap.size → w1.cell? ⟨b, o, none⟩ = W.cell? ⟨b, o, none⟩) ∧ (∀ b o, b < W.heap.size → w1.frozen? ⟨b, o, none⟩ = W.frozen? ⟨b, o, none⟩) :=
  ⟨fun b o h => hb.cell (p := ⟨b, o, none⟩) h, fun b o h => (hb.below (Nat.le_refl _) fun _ _ h => h).frozen (p := ⟨b, o, none⟩) h⟩
theorem rf_new {W w2 : World} {o : Obj} (h : Far (fun _ => False) (W.alloc o).drew w2) : W.heap.size < w2.heap.size := by have := h.size; simp [World.drew] at this; omega
theorem rf_new1 {W w2 : World} {o : Obj} (h : Far (fun _ => False) (W.alloc o) w2) : W.heap.size < w2.heap.size := by have := h.size; simp at this; omega
theorem rf_ne {h k b : Nat} {W w1 : World} (hl : h < W.heap.size ∧ k < W.heap.size ∧ b < W.heap.size) (hb : Far (fun _ => False) W w1) : h ≠ w1.heap.size ∧ k ≠ w1.heap.size ∧ b ≠ w1.heap.size ∧ w1.heap.size ≠ h ∧ w1.heap.size ≠ k ∧ w1.heap.size ≠ b := by have := hb.size; omega
/-- The blocks of a keeper and of what is told of to. -/
def KT2 (B : Nat) (Fs Fb Fc Ft : Nat → Prop) (k : Nat) : Prop := KF B Fs Fb Fc k ∨ Ft k
theorem far_boxes {w W0 : World} {h a b c : Nat} {o1 o2 o3 : Array Value} {t1 t2 t3 : TypeId} (hW : W0 = ((w.alloc (.cells o1 t1)).alloc (.cells o2 t2)).alloc (.cells o3 t3)) (ha : a = w.heap.size) (hb : b = a + 1) (hc : c = b + 1) :
    Far (fun _ => False) w W0 ∧ Bk W0 a t1 o1 ∧ Bk W0 b t2 o2 ∧ Bk W0 c t3 o3 := by
  subst hW
  exact ⟨(((Far.refl _ w).alloc _).alloc _).alloc _, ((Bk.new ha).alloc _).alloc _, (Bk.new (by rw [hb, ha]; simp)).alloc _, Bk.new (by rw [hc, hb, ha]; simp)⟩
section
set_option maxHeartbeats 16000000
set_option maxRecDepth 100000
theorem kadd_any {w : World} {Fs Fc Ft : Nat → Prop} (hK : Kp w B ps pb pc Fs Fb Fc s M C) (hTe : Tel s tf tl TI) (hti : TI [] Ft w) (hT : Tab w) (hd : ∀ k, KF B Fs Fb Fc k → ¬ Ft k) (htab : ∀ k, KT2 B Fs Fb Fc Ft k → k ≠ 0) (hi : i < s) (hj : j < s) :
    Calls Tryz.prog 61 #[.pointer (some ⟨B, 0, none⟩), .int .i64 (i : Nat), .int .i64 (j : Nat), .func (.func tf) #[] tl] w fun e w' => e = .returned (.tuple #[]) ∧ ∃ Fs' Fb' Fc' Ft' C' told, Kp w' B ps pb pc Fs' Fb' Fc' s (putM M i j) C' ∧ TI told Ft' w' ∧ TM C C' told ∧ (∀ k, KF B Fs' Fb' Fc' k → ¬ Ft' k) ∧ Mv w w' (KT2 B Fs Fb Fc Ft) (KT2 B Fs' Fb' Fc' Ft') := by
  obtain ⟨h4, hh4⟩ : ∃ h, h = w.heap.size := ⟨_, rfl⟩
  obtain ⟨h6, hh6⟩ : ∃ h, h = h4 + 1 := ⟨_, rfl⟩
  obtain ⟨h7, hh7⟩ : ∃ h, h = h6 + 1 := ⟨_, rfl⟩
  obtain ⟨W0, hW0⟩ : ∃ V, V = ((w.alloc (.cells #[.pointer (some ⟨B, 0, none⟩)] 42)).alloc (.cells #[.int .i64 (j : Nat)] 3)).alloc (.cells #[.func (.func tf) #[] tl] 114) := ⟨_, rfl⟩
  obtain ⟨hf0, b4, b6, b7⟩ := far_boxes (h := 0) hW0 hh4 hh6 hh7
  have hs2 := hK.st.sides.2
  have SE := Lib.hid (fun (V : World) (hf : Far (fun _ => False) W0 V) => qset_yes (hK.st.still (hf0.then hf)) i j hi hj)
  have c4 : W0.cell? ⟨h4, 0, none⟩ = some (.pointer (some ⟨B, 0, none⟩)) := b4.cell 0
  have c6 : W0.cell? ⟨h6, 0, none⟩ = some (.int .i64 (j : Nat)) := b6.cell 0
  have cB : W0.cell? ⟨B, 0, none⟩ = some (.pointer (some ⟨ps, 0, none⟩)) := (hK.still hf0).box.cell 0
  have hBl := hK.box.lt
  have hFtl := Lib.hid (hTe.lt _ _ _ hti)
  have HC := Lib.hid (show ∀ V, Far (fun k => Fs k ∨ Fb k) W0 V → (V.cell? ⟨h4, 0, none⟩ = some (.pointer (some ⟨B, 0, none⟩)) ∧ V.cell? ⟨h6, 0, none⟩ = some (.int .i64 (j : Nat)) ∧ V.cell? ⟨B, 0, none⟩ = some (.pointer (some ⟨ps, 0, none⟩)) ∧ V.cell? ⟨B, 1, none⟩ = some (.pointer (some ⟨pb, 0, none⟩)) ∧ V.cell? ⟨B, 2, none⟩ = some (.pointer (some ⟨pc, 0, none⟩))) from fun V hf => by
    have hb1 := hK.b1
    have f4 : ¬ (Fs h4 ∨ Fb h4) := fun h => h.elim (fun h => by have := hK.st.lt _ h; omega) fun h => by have := hK.bk.lt _ h; omega
    have f6 : ¬ (Fs h6 ∨ Fb h6) := fun h => h.elim (fun h => by have := hK.st.lt _ h; omega) fun h => by have := hK.bk.lt _ h; omega
    have fB : ¬ (Fs B ∨ Fb B) := fun h => h.elim hb1.1 hb1.2.1
    exact ⟨(b4.far' hf f4).cell 0, (b6.far' hf f6).cell 0, ((hK.still hf0).box.far' hf fB).cell 0, ((hK.still hf0).box.far' hf fB).cell 1, ((hK.still hf0).box.far' hf fB).cell 2⟩)
  have hK' := Lib.hid hK
  have hTe' := Lib.hid hTe
  have hti' := Lib.hid hti
  have hT' := Lib.hid hT
  have hd' := Lib.hid hd
  have htab' := Lib.hid htab
  have hh4' := Lib.hid hh4
  have hh6' := Lib.hid hh6
  have hh7' := Lib.hid hh7
  have hW0' := Lib.hid hW0
  have hf0' := Lib.hid hf0
  have b4' := Lib.hid b4
  have b6' := Lib.hid b6
  have b7' := Lib.hid b7
  clear hK hTe hti hT hd htab hh4 hh6 hh7 hW0 hf0 b4 b6 b7
  go_enter Tryz.func61, Tryz.ntmps61
  go_upto_region 1 with fail
  rw [← hh4'.out, ← hh6'.out, ← hh7'.out, ← hW0'.out]
  go_region_held3 (fun w' => w'.cell? ⟨h4, 0, none⟩ = some (.pointer (some ⟨B, 0, none⟩)) ∧ w'.cell? ⟨h6, 0, none⟩ = some (.int .i64 (j : Nat)) ∧ w'.cell? ⟨B, 0, none⟩ = some (.pointer (some ⟨ps, 0, none⟩))) (go_keep)
    (first
      | (go_at_call 48; refine (SE.out _ (Far.refl _ W0).drew).mono ?_; rintro e w1 ⟨rfl, Fs1, hX1, hv1⟩; obtain ⟨c4, c6, cB, cB1, cB2⟩ := HC.out w1 (((Far.refl _ W0).drew).trans (hv1.far.mono fun k _ h => .inl h) fun _ _ h => h); have hX1' := Lib.hid hX1; have hv1' := Lib.hid hv1; clear hX1 hv1))
  have BE := Lib.hid (fun (V : World) (hf : Far (fun _ => False) w1 V) => qset_yes ((hK'.out.bk.still hf0'.out).kept ((((Far.refl (fun _ => False) W0).drew).mono (G := Fs) fun _ _ h => h.elim).trans (hv1'.out.far.trans (G := fun _ => False) hf fun _ _ h => h.elim) fun _ _ h => h) fun k hk e => hK'.out.d1 k e hk) j i hj hi)
  clear SE
  go_wp2_with fail
  go_region_held3 (fun w' => w'.cell? ⟨h4, 0, none⟩ = some (.pointer (some ⟨B, 0, none⟩)) ∧ w'.cell? ⟨h6, 0, none⟩ = some (.int .i64 (j : Nat)) ∧ w'.cell? ⟨B, 1, none⟩ = some (.pointer (some ⟨pb, 0, none⟩))) (go_keep)
    (first
      | (go_at_call 48; refine (BE.out _ (Far.refl _ w1).drew).mono ?_; rintro e w2 ⟨rfl, Fb2, hX2, hv2⟩; have hf2 : Far (fun k => Fs k ∨ Fb k) W0 w2 := ((((Far.refl (fun k => Fs k ∨ Fb k) W0).drew).trans (hv1'.out.far.mono (G := fun k => Fs k ∨ Fb k) fun k _ h => .inl h) fun _ _ h => h).drew).trans (hv2.far.mono (G := fun k => Fs k ∨ Fb k) fun k _ h => .inr h) fun _ _ h => h; obtain ⟨c4, c6, cB, cB1, cB2⟩ := HC.out w2 hf2; have hX2' := Lib.hid hX2; have hv2' := Lib.hid hv2; have hf2' := Lib.hid hf2; clear hX2 hv2 hf2))
  have hw02 : Far (fun k => Fs k ∨ Fb k) w w2 := (hf0'.out.mono (G := fun k => Fs k ∨ Fb k) fun _ _ h => h.elim).trans hf2'.out fun _ _ h => h
  have hx1 : Mx w2 ps Fs1 s (putM M i j) := hX1'.out.kept ((((Far.refl (fun _ => False) w1).drew).mono (G := Fb) fun _ _ h => h.elim).trans hv2'.out.far fun _ _ h => h) fun k hk e => (hv1'.out.more k hk).elim (fun h => hK'.out.d1 k h e) fun h => by
    have h1 := hK'.out.bk.lt k e
    have h2 := hf0'.out.size
    have h3 : W0.heap.size ≤ k := h
    omega
  have hx2 : Mx w2 pb Fb2 s (tnM (putM M i j)) := hX2'.out.congr fun r c => by
    unfold tnM putM
    rw [Bool.and_comm]
  have hx3 : Mx w2 pc Fc s C := hK'.out.cl.kept hw02 fun k hk e => e.elim (fun h => hK'.out.d2 k h hk) fun h => hK'.out.d3 k h hk
  have hbx : Bk w2 B 90 #[.pointer (some ⟨ps, 0, none⟩), .pointer (some ⟨pb, 0, none⟩), .pointer (some ⟨pc, 0, none⟩)] := hK'.out.box.far' hw02 fun h => h.elim hK'.out.b1.1 hK'.out.b1.2.1
  have htb2 : Tab w2 := tab_far hT'.out hw02 fun h => htab'.out _ (.inl (h.elim (fun h => .inr (.inl h)) fun h => .inr (.inr (.inl h)))) rfl
  have hti2 : TI [] Ft w2 := hTe'.out.still _ _ _ _ _ hti'.out hw02 fun k hk e => hd'.out k (e.elim (fun h => .inr (.inl h)) fun h => .inr (.inr (.inl h))) hk
  have n4 : ¬ (Fs h4 ∨ Fb h4) := fun h => h.elim (fun h => by have := hK'.out.st.lt _ h; have := hh4'.out; omega) fun h => by have := hK'.out.bk.lt _ h; have := hh4'.out; omega
  have n6 : ¬ (Fs h6 ∨ Fb h6) := fun h => h.elim (fun h => by have := hK'.out.st.lt _ h; have := hh4'.out; have := hh6'.out; omega) fun h => by have := hK'.out.bk.lt _ h; have := hh4'.out; have := hh6'.out; omega
  have n7 : ¬ (Fs h7 ∨ Fb h7) := fun h => h.elim (fun h => by have := hK'.out.st.lt _ h; have := hh4'.out; have := hh6'.out; have := hh7'.out; omega) fun h => by have := hK'.out.bk.lt _ h; have := hh4'.out; have := hh6'.out; have := hh7'.out; omega
  have b42 := Lib.hid (b4'.out.far' hf2'.out n4)
  have b62 := Lib.hid (b6'.out.far' hf2'.out n6)
  have b72 := Lib.hid (b7'.out.far' hf2'.out n7)
  have hF1 : ∀ k, Fs1 k → Fs k ∨ w.heap.size ≤ k := fun k hk => (hv1'.out.more k hk).imp id fun h => Nat.le_trans hf0'.out.size h
  have hF2 : ∀ k, Fb2 k → Fb k ∨ w1.heap.size ≤ k := fun k hk => hv2'.out.more k hk
  have hz1 : w.heap.size ≤ w1.heap.size := Nat.le_trans hf0'.out.size hv1'.out.far.size
  have hFs1 : ∀ k, Fs1 k → k < w1.heap.size := hX1'.out.lt
  have hd1 : ∀ k, Fs1 k → ¬ Fb2 k := fun k h1 h2 => (hF2 k h2).elim (fun h => (hF1 k h1).elim (fun h1 => hK'.out.d1 k h1 h) fun h1 => by have := hK'.out.bk.lt k h; omega) fun h => by have := hFs1 k h1; omega
  have hd2 : ∀ k, Fs1 k → ¬ Fc k := fun k h1 h2 => (hF1 k h1).elim (fun h1 => hK'.out.d2 k h1 h2) fun h1 => by have := hK'.out.cl.lt k h2; omega
  have hd3 : ∀ k, Fb2 k → ¬ Fc k := fun k h1 h2 => (hF2 k h1).elim (fun h1 => hK'.out.d3 k h1 h2) fun h1 => by have := hK'.out.cl.lt k h2; omega
  have hclo := hK'.out.clo
  have hwC := hK'.out.clo.within hK'.out.st.within
  have RE := kreach_box hbx hx3 i j hi hj
  have hw02' := Lib.hid hw02
  have hx1' := Lib.hid hx1
  have hx2' := Lib.hid hx2
  have hx3' := Lib.hid hx3
  have hbx' := Lib.hid hbx
  have htb2' := Lib.hid htb2
  have hti2' := Lib.hid hti2
  have hF1' := Lib.hid hF1
  have hF2' := Lib.hid (show ∀ k, Fb2 k → Fb k ∨ w.heap.size ≤ k from fun k hk => (hF2 k hk).imp id fun h => Nat.le_trans hz1 h)
  have hd1' := Lib.hid hd1
  have hd2' := Lib.hid hd2
  have hd3' := Lib.hid hd3
  have hclo' := Lib.hid hclo
  have hwC' := Lib.hid hwC
  have hn467 := Lib.hid (show w.heap.size ≤ h4 ∧ h4 < h6 ∧ h6 < h7 ∧ h7 < w2.heap.size from ⟨by have := hh4'.out; omega, by have := hh6'.out; omega, by have := hh7'.out; omega, b72.out.lt⟩)
  clear hw02 hx1 hx2 hx3 hbx htb2 hti2 n4 n6 n7 hF1 hF2 hFs1 hd1 hd2 hd3 hclo hwC hz1 hX1' hX2' hv1' hv2' BE HC hf2' b4' b6' b7' hW0' hf0' hti' hT' hh4' hh6' hh7'
  go_wp2_with fail
  refine RE.mono ?_
  rintro e w3 ⟨rfl, hf3⟩
  have hf3' := Lib.hid hf3
  have hmC : ∀ r c, putM M i j r c = true ↔ M r c = true ∨ (r = i ∧ c = j) := fun r c => by
    unfold putM
    simp only [Bool.or_eq_true, Bool.and_eq_true, decide_eq_true_eq]
  have hmC' := Lib.hid hmC
  have hF3 : ∀ k, KT2 B Fs1 Fb2 Fc Ft k → KT2 B Fs Fb Fc Ft k ∨ w.heap.size ≤ k := fun k hk => by
    rcases hk with (h | h | h | h) | h
    · exact .inl (.inl (.inl h))
    · exact (hF1'.out k h).imp (fun h => .inl (.inr (.inl h))) id
    · exact (hF2'.out k h).imp (fun h => .inl (.inr (.inr (.inl h)))) id
    · exact .inl (.inl (.inr (.inr (.inr h))))
    · exact .inl (.inr h)
  have hF3' := Lib.hid hF3
  have hdt : ∀ k, KF B Fs1 Fb2 Fc k → ¬ Ft k := fun k hk ht => by
    have hl := hFtl.out k ht
    rcases hk with h | h | h | h
    · exact hd'.out k (.inl h) ht
    · exact (hF1'.out k h).elim (fun h => hd'.out k (.inr (.inl h)) ht) fun h => by omega
    · exact (hF2'.out k h).elim (fun h => hd'.out k (.inr (.inr (.inl h))) ht) fun h => by omega
    · exact hd'.out k (.inr (.inr (.inr h))) ht
  have hdt' := Lib.hid hdt
  clear RE hf3 hmC hF3 hdt
  cases hij : C i j with
  | true =>
    have hij' := Lib.hid hij
    clear hij
    go_wp2_with fail
    refine bodyPost_ret (results_none rfl _ _ _) rfl ?_
    refine ⟨rfl, Fs1, Fb2, Fc, Ft, C, [], ⟨hbx'.out.far' hf3'.out id, hx1'.out.still hf3'.out, hx2'.out.still hf3'.out, hx3'.out.still hf3'.out, (moreC_clo hclo'.out hmC'.out).congr (fun _ _ => rfl) fun r c => (moreC_same hclo'.out hij'.out r c).symm, hd1'.out, hd2'.out, hd3'.out⟩, hTe'.out.still _ _ _ _ _ hti2'.out hf3'.out (fun _ _ h => h), TM.start C, hdt'.out, ⟨(hw02'.out.mono fun k _ h => .inl (h.elim (fun h => .inr (.inl h)) fun h => .inr (.inr (.inl h)))).trans hf3'.out fun _ _ h => h.elim, hF3'.out⟩⟩
  | false =>
    have hij' := Lib.hid hij
    clear hij
    have RO := Lib.hid (fun (V : World) (hf : Far (fun _ => False) w3 V) => qrow_any ((hx3'.out.still hf3'.out).still hf) ((htb2'.out.still hf3'.out).still hf) j hj)
    have c4 : w3.cell? ⟨h4, 0, none⟩ = some (.pointer (some ⟨B, 0, none⟩)) := (b42.out.far' hf3'.out id).cell 0
    have c6 : w3.cell? ⟨h6, 0, none⟩ = some (.int .i64 (j : Nat)) := (b62.out.far' hf3'.out id).cell 0
    have cB2 : w3.cell? ⟨B, 2, none⟩ = some (.pointer (some ⟨pc, 0, none⟩)) := (hbx'.out.far' hf3'.out id).cell 2
    have HC3 := Lib.hid (show ∀ V, Far (fun _ => False) w3 V → (V.cell? ⟨h4, 0, none⟩ = some (.pointer (some ⟨B, 0, none⟩)) ∧ V.cell? ⟨h6, 0, none⟩ = some (.int .i64 (j : Nat)) ∧ V.cell? ⟨B, 2, none⟩ = some (.pointer (some ⟨pc, 0, none⟩))) from fun V hf => ⟨(b42.out.far' (hf3'.out.then hf) id).cell 0, (b62.out.far' (hf3'.out.then hf) id).cell 0, (hbx'.out.far' (hf3'.out.then hf) id).cell 2⟩)
    have hl3 : h4 < w3.heap.size ∧ h6 < w3.heap.size ∧ B < w3.heap.size := by have := hn467.out; have := hf3'.out.size; omega
    have ne4 : h4 ≠ w3.heap.size := by have := hn467.out; have := hf3'.out.size; omega
    have ne6 : h6 ≠ w3.heap.size := by have := hn467.out; have := hf3'.out.size; omega
    have neB : B ≠ w3.heap.size := by have := hn467.out; have := hf3'.out.size; omega
    have ne4' : w3.heap.size ≠ h4 := ne4.symm
    have ne6' : w3.heap.size ≠ h6 := ne6.symm
    have neB' : w3.heap.size ≠ B := neB.symm
    go_upto_region 4 with fail
    go_cut [8] (fun v wc => ∃ (h8 : Nat) (val : Value), v = .pointer (some ⟨h8, 0, none⟩) ∧ Bk wc h8 30 #[val] ∧ w3.heap.size ≤ h8 ∧ wc.ownsRow w3.heap.size 3 1 val (colsM C s j).length (ncells (colsM C s j)) ∧ Far (fun _ => False) w3 wc)
    case first =>
      go_region_held3 (fun w' => w'.cell? ⟨h4, 0, none⟩ = some (.pointer (some ⟨B, 0, none⟩)) ∧ w'.cell? ⟨h6, 0, none⟩ = some (.int .i64 (j : Nat)) ∧ w'.cell? ⟨B, 2, none⟩ = some (.pointer (some ⟨pc, 0, none⟩))) (go_keep)
        (first
          | (go_at_call 23; refine (RO.out _ (by first | exact (Far.refl _ w3).drew | exact ((Far.refl _ w3).drew.alloc _).drew | exact ((Far.refl _ w3).alloc _).drew | exact ((Far.refl _ w3).drew.alloc _))).mono ?_; rintro e w5 ⟨v5, rfl, hO5, hf5⟩; obtain ⟨ao5, cp5, rfl⟩ := q_form hO5; have hf5' := Lib.hid hf5; have hO5' := Lib.hid hO5; obtain ⟨c4, c6, cB2⟩ := HC3.out w5 (Far.then (by first | exact (Far.refl _ w3).drew | exact ((Far.refl _ w3).drew.alloc _).drew | exact ((Far.refl _ w3).alloc _).drew | exact ((Far.refl _ w3).drew.alloc _)) hf5); obtain ⟨hc5, hz5⟩ := rf_cells hf5; (first | have ns5 := rf_new hf5 | have ns5 := rf_new1 hf5 | skip); have hs5 := hf5.size; obtain ⟨n51, n52, n53, n54, n55, n56⟩ := rf_ne hl3 (Far.then (by first | exact (Far.refl _ w3).drew | exact ((Far.refl _ w3).drew.alloc _).drew | exact ((Far.refl _ w3).alloc _).drew | exact ((Far.refl _ w3).drew.alloc _)) hf5); clear hf5 hO5))
      all_goals
        clear hc5 hz5
        go_wp2_with fail
        go_meet
      · exact ⟨_, _, rfl, Bk.new rfl, Nat.le_trans (Nat.le_of_eq rfl) hs5, (own_base (Nat.le_of_eq rfl) hO5'.out).alloc _, ((Far.refl _ w3).drew.then hf5'.out).alloc _⟩
      · have hle : w3.heap.size ≤ (w3.alloc (.cells #[.slice none 0 0] 30)).drew.heap.size := by simp [World.drew]
        have b8 := ((Bk.new rfl : Bk (w3.alloc (.cells #[.slice none 0 0] 30)) w3.heap.size 30 #[.slice none 0 0]).far' (F := fun _ => False) (((Far.refl _ _).drew).then hf5'.out) id).set 0 (.slice ao5 (colsM C s j).length cp5)
        refine ⟨_, _, rfl, b8, Nat.le_refl _, row_same (own_base hle hO5'.out) fun k hk hl => heap_setCell_other _ _ _ _ fun e => ?_, (((Far.refl _ w3).alloc _).drew.then hf5'.out).set _ _ fun h => absurd h (Nat.lt_irrefl _)⟩
        have h1 := (hO5'.out.lt k hk).1
        have e : k = w3.heap.size := e
        have h2 : w3.heap.size + 1 ≤ (w3.alloc (.cells #[.slice none 0 0] 30)).drew.heap.size := by simp [World.drew]
        omega
    case rest =>
      obtain ⟨h8, val, rfl, b8, hle8, hO8, hf8⟩ := hcut
      obtain ⟨vo, vc, rfl⟩ := q_form hO8
      obtain ⟨wd, hwd⟩ : ∃ wd, wd = wc := ⟨_, rfl⟩
      rw [← hwd] at b8 hO8 hf8 ⊢
      clear hwd c4 c6 cB2 ne4 ne6 neB ne4' ne6' neB' RO
      obtain ⟨c4, c6, cB2⟩ := HC3.out wd hf8
      obtain ⟨N8, hN8⟩ : ∃ N, (colsM C s j).length = N := ⟨_, rfl⟩
      have hN81 : N8 ≤ 1024 := by rw [← hN8]; exact Nat.le_trans (colsM_le C s j) hs2
      rw [hN8] at b8 hO8
      have hN8' := Lib.hid hN8
      have c8 : wd.cell? ⟨h8, 0, none⟩ = some (.slice vo N8 vc) := b8.cell 0
      obtain ⟨i0, hi0, hz0, hz1, hz2⟩ := info_parts int_info
      have A1 := Lib.hid (hO8.alloc (.cells #[.int .i64 (j : Nat)] 3))
      have A2 := Lib.hid (World.news_of_block (w := wd.alloc (.cells #[.int .i64 (j : Nat)] 3)) (cs := #[.int .i64 (j : Nat)]) (t := 3) (fr := (0, 0)) (heap_alloc_new wd _))
      have A3 : ∀ u ∈ (#[.int .i64 (j : Nat)] : Array Value).toList, u.oneCell' = true := fun u hu => by simp at hu; subst hu; rfl
      have A4 : N8 + 1 ≤ maxLen := by unfold maxLen; omega
      have A5 : (N8 + 1) * 8 ≤ 140737488355328 := by omega
      have A7 : w3.heap.size ≤ (wd.alloc (.cells #[.int .i64 (j : Nat)] 3)).heap.size := by have := hf8.size; simp; omega
      have hn8 : (Value.slice vo N8 vc).ownBlock ≠ some h8 := fun e => by
        obtain ⟨_, _, cs, hb⟩ := own_type hO8 e
        have := bk_type hb b8
        revert this
        decide
      have b8' := Lib.hid b8
      have hO8' := Lib.hid hO8
      have hf8' := Lib.hid hf8
      clear b8 hO8 hf8 hN8
      go_upto_region 6 with (at_builtin; refine wpList_append_lies _ rfl _ _ 30 rfl w3.heap.size 3 i0 _ 1 8 Tryz.underlying30 hi0 hz0 hz1 hz2 rfl (by decide) (.slice vo N8 vc) N8 _ rfl A1.out ⟨wd.heap.size, 0, none⟩ 1 1 (#[.int .i64 (j : Nat)] : Array Value).toList rfl rfl A2.out A3 (by decide) A4 A5 A7 _ rfl ?_; intro fg fc w4 ho4 hg4 hat4 hl4; have b84 : Bk w4 h8 30 #[.slice vo N8 vc] := (b8'.out.alloc _).grownR hg4 (fun e => hn8 e.symm); have f84 := b84.free 0; have c84 : w4.cell? ⟨h8, 0, none⟩ = some (.slice vo N8 vc) := b84.cell 0; have b84' := Lib.hid b84; have ho4' := Lib.hid ho4; have hg4' := Lib.hid hg4; have hat4' := Lib.hid hat4; clear ho4 hg4 hat4 b84)
      have hgt : fg < w4.heap.size := (ho4'.out.lt fg rfl).2
      have hg3 : w3.heap.size ≤ fg := (ho4'.out.lt fg rfl).1
      have hf4 : Far (fun _ => False) w3 w4 := (hf8'.out.alloc _).grown hg4'.out fun k hk e => by have := (hO8'.out.lt k e).1; omega
      have ho4 : w4.ownsRow w3.heap.size 3 1 (.slice (some ⟨fg, 0, none⟩) (N8 + 1) fc) (N8 + 1) (ncells (colsM C s j ++ [j])) := by have := ho4'.out; rwa [show ncells (colsM C s j) ++ (#[.int .i64 (j : Nat)] : Array Value).toList = ncells (colsM C s j ++ [j]) by rw [ncells_snoc]] at this
      have hf8n : fg ≠ h8 := fun e => by
        subst e
        obtain ⟨_, _, cs, hb⟩ := own_type ho4 rfl
        have := bk_type hb b84'.out
        revert this
        decide
      obtain ⟨W9, hW9⟩ : ∃ V, V = w4.setCell ⟨h8, 0, none⟩ (.slice (some ⟨fg, 0, none⟩) (N8 + 1) fc) := ⟨_, rfl⟩
      rw [← hW9]
      have b89 : Bk W9 h8 30 #[.slice (some ⟨fg, 0, none⟩) (N8 + 1) fc] := hW9 ▸ b84'.out.set 0 _
      have hf9 : Far (fun _ => False) w3 W9 := hW9 ▸ hf4.set _ _ fun h => absurd h (Nat.not_lt.2 hle8)
      have ho9 : W9.ownsRow w3.heap.size 3 1 (.slice (some ⟨fg, 0, none⟩) (N8 + 1) fc) (N8 + 1) (ncells (colsM C s j ++ [j])) := hW9 ▸ row_same ho4 fun k hk hl => heap_setCell_other _ _ _ _ fun e => by
        cases hk
        exact hf8n e
      obtain ⟨h10, hh10⟩ : ∃ h, h = W9.heap.size := ⟨_, rfl⟩
      obtain ⟨W10, hW10⟩ : ∃ V, V = W9.alloc (.cells #[.func (.func 92) #[] #[.pointer (some ⟨h4, 0, none⟩), .pointer (some ⟨h6, 0, none⟩), .pointer (some ⟨h8, 0, none⟩), .pointer (some ⟨h7, 0, none⟩)]] 106) := ⟨_, rfl⟩
      have hf10 : Far (fun _ => False) w3 W10 := hW10 ▸ hf9.alloc _
      have b10 : Bk W10 h10 106 #[.func (.func 92) #[] #[.pointer (some ⟨h4, 0, none⟩), .pointer (some ⟨h6, 0, none⟩), .pointer (some ⟨h8, 0, none⟩), .pointer (some ⟨h7, 0, none⟩)]] := hW10 ▸ Bk.new hh10
      have b810 : Bk W10 h8 30 #[.slice (some ⟨fg, 0, none⟩) (N8 + 1) fc] := hW10 ▸ b89.alloc _
      have ho10 : W10.ownsRow w3.heap.size 3 1 (.slice (some ⟨fg, 0, none⟩) (N8 + 1) fc) (N8 + 1) (ncells (colsM C s j ++ [j])) := hW10 ▸ ho9.alloc _
      have hf210 : Far (fun _ => False) w2 W10 := hf3'.out.then hf10
      have hlX : (colsM C s j ++ [j]).length = N8 + 1 := by rw [List.length_append, hN8'.out]; rfl
      have hz10 : w3.heap.size ≤ W10.heap.size := hf10.size
      have hz23 := hf3'.out.size
      have hq := hn467.out
      have hFcl := hK'.out.cl.lt
      obtain ⟨FX, hFX⟩ : ∃ FX : Nat → Prop, FX = fun k => k = B ∨ k = h4 ∨ k = h6 ∨ k = h8 ∨ k = h7 ∨ k = fg ∨ k = 0 ∨ Fb2 k ∨ k = h10 ∨ Fs1 k := ⟨_, rfl⟩
      have fxc : ∀ k, FX k → ¬ Fc k ∧ ¬ Ft k := fun k hk => by
        rw [hFX] at hk
        rcases hk with rfl | rfl | rfl | rfl | rfl | rfl | rfl | h | rfl | h
        · exact ⟨hK'.out.b1.2.2, hd'.out _ (.inl rfl)⟩
        · exact ⟨fun h => by have := hFcl _ h; omega, fun h => by have := hFtl.out _ h; omega⟩
        · exact ⟨fun h => by have := hFcl _ h; omega, fun h => by have := hFtl.out _ h; omega⟩
        · exact ⟨fun h => by have := hFcl _ h; omega, fun h => by have := hFtl.out _ h; omega⟩
        · exact ⟨fun h => by have := hFcl _ h; omega, fun h => by have := hFtl.out _ h; omega⟩
        · exact ⟨fun h => by have := hFcl _ h; omega, fun h => by have := hFtl.out _ h; omega⟩
        · exact ⟨fun h => htab'.out _ (.inl (.inr (.inr (.inr h)))) rfl, fun h => htab'.out _ (.inr h) rfl⟩
        · exact ⟨hd3'.out k h, hdt'.out k (.inr (.inr (.inl h)))⟩
        · exact ⟨fun h => by have := hFcl _ h; have := hf9.size; omega, fun h => by have := hFtl.out _ h; have := hf9.size; omega⟩
        · exact ⟨hd2'.out k h, hdt'.out k (.inr (.inl h))⟩
      have fxl : ∀ k, FX k → k < W10.heap.size := fun k hk => by
        rw [hFX] at hk
        have hz4 : w4.heap.size ≤ W10.heap.size := by rw [hW10, hW9]; simp
        rcases hk with rfl | rfl | rfl | rfl | rfl | rfl | rfl | h | rfl | h
        · omega
        · omega
        · omega
        · exact b810.lt
        · omega
        · omega
        · have := htb2'.out.lt; omega
        · have := hx2'.out.lt k h; omega
        · exact b10.lt
        · have := hx1'.out.lt k h; omega
      have hgx : FX h10 := by rw [hFX]; exact .inr (.inr (.inr (.inr (.inr (.inr (.inr (.inr (.inl rfl))))))))
      have hsx : ∀ k, Fs1 k → FX k := fun k h => by rw [hFX]; exact .inr (.inr (.inr (.inr (.inr (.inr (.inr (.inr (.inr h))))))))
      have hbX : ∀ k, Fb2 k → FX k := fun k h => by rw [hFX]; exact .inr (.inr (.inr (.inr (.inr (.inr (.inr (.inl h)))))))
      have hBX : FX B := by rw [hFX]; exact .inl rfl
      have fxs : FX B ∧ FX h4 ∧ FX h6 ∧ FX h8 ∧ FX h7 ∧ FX fg ∧ FX 0 ∧ ∀ k, Fb2 k → FX k := by
        refine ⟨hBX, ?_, ?_, ?_, ?_, ?_, ?_, hbX⟩ <;> rw [hFX] <;> simp
      have hAI : AI FX B ps pb pc h4 h6 h8 h7 h10 w3.heap.size fg fc s i j Fb2 tf tl TI M C (fun _ => false) (CF Fc Ft) W10 :=
        ⟨Fc, Ft, [], ⟨hbx'.out.far' hf210 id, b42.out.far' hf210 id, b62.out.far' hf210 id, by rw [hlX]; exact b810, b72.out.far' hf210 id, by rw [hlX]; exact ho10, tab_far htb2'.out hf210 id, hx2'.out.still hf210, (hx3'.out.still hf210).congr fun r c => gainC_zero C j r c, hTe'.out.still _ _ _ _ _ hti2'.out hf210 fun _ _ h => h, fxs, fxl, fxc, fun k hk => hd'.out k (.inr (.inr (.inr hk)))⟩, (TM.start C).congr fun r c => gainC_zero C j r c, b10, rfl⟩
      have hst10 := hx1'.out.still hf210
      have hfw10 : Far (fun k => Fs k ∨ Fb k) w W10 := hw02'.out.trans hf210 fun _ _ h => h.elim
      have GN := AI.gain hTe'.out hs2 hj hwC'.out hgx hAI i hi
      have c10 : W10.cell? ⟨h10, 0, none⟩ = some (.func (.func 92) #[] #[.pointer (some ⟨h4, 0, none⟩), .pointer (some ⟨h6, 0, none⟩), .pointer (some ⟨h8, 0, none⟩), .pointer (some ⟨h7, 0, none⟩)]) := b10.cell 0
      have ent : ∀ args w, (callFunc 92 args).run Tryz.prog w = .ok (.enter 92 args) w := enters_of Tryz.func92 (by kernel_rfl) rfl
      have hAI' := Lib.hid hAI
      have hst10' := Lib.hid hst10
      have hfw10' := Lib.hid hfw10
      have fxc' := Lib.hid fxc
      have fxl' := Lib.hid fxl
      have hgx' := Lib.hid hgx
      have hsx' := Lib.hid hsx
      have hbX' := Lib.hid hbX
      have hBX' := Lib.hid hBX
      have hW10' := Lib.hid hW10
      have hh10' := Lib.hid hh10
      have hzw := Lib.hid (show w.heap.size ≤ W10.heap.size from by omega)
      obtain ⟨gb, hgb⟩ : ∃ b, (!(C i j || (fun _ : Nat => false) i)) = b := ⟨_, rfl⟩
      rw [hgb] at GN
      clear hgb hAI hst10 hfw10 fxc fxl hgx hsx hbX hBX fxs hW10 hh10 hFX hW9 b89 hf9 ho9 hf10 b10 b810 ho10 hf210 hlX hz10 hz23 hq hFcl hf4 ho4 hgt hg3 hf8n c84 f84 c8 A1 A2 A3 A4 A5 A7 hn8 b8' hO8' hf8' hat4' hg4' ho4' b84' c4 c6 cB2 HC3
      go_upto_region 7 with fail
      rw [← hh10'.out, ← hW10'.out]
      go_wp2_with fail
      refine GN.mono ?_
      rintro e w11 ⟨rfl, F11, hA11, hv11⟩
      obtain ⟨Fc11, Ft11, told11, hG11, hm11, hB11, rfl⟩ := hA11
      have hA11' := Lib.hid (show AI FX B ps pb pc h4 h6 h8 h7 h10 w3.heap.size fg fc s i j Fb2 tf tl TI M C (addG (fun x => C x j) (fun _ => false) i) (CF Fc11 Ft11) w11 from ⟨Fc11, Ft11, told11, hG11, hm11, hB11, rfl⟩)
      have hst11 := Lib.hid (hst10'.out.kept hv11.far fun k hk h => h.elim (fxc'.out k (hsx'.out k hk)).1 (fxc'.out k (hsx'.out k hk)).2)
      have hx11 := Lib.hid hG11.x1
      have hv11' := Lib.hid hv11
      have c4 : w11.cell? ⟨h4, 0, none⟩ = some (.pointer (some ⟨B, 0, none⟩)) := hG11.k1.cell 0
      have cB1 : w11.cell? ⟨B, 1, none⟩ = some (.pointer (some ⟨pb, 0, none⟩)) := hG11.kb.cell 1
      have FL := flow_any hs2 (flw_add hTe'.out hs2 hj hwC'.out hgx'.out) hA11'.out (fun k hk => Nat.lt_of_lt_of_le (fxl'.out k hk) hv11.far.size) hi
      clear GN hG11 hm11 hB11 hv11 c10
      go_wp2_with fail
      refine FL.mono ?_
      rintro e w12 ⟨rfl, G, F12, hS, hA12, hv12⟩
      obtain ⟨Fc12, Ft12, told12, hG12, hm12, hB12, rfl⟩ := hA12
      have hS' := Lib.hid hS
      have hG12' := Lib.hid hG12
      have hm12' := Lib.hid hm12
      have hv12' := Lib.hid hv12
      clear FL hS hG12 hm12 hB12 hv12 c4 cB1
      go_wp2_with fail
      go_end0
      have hS := hS'.out
      have hG := hG12'.out
      have hG0 : ∀ y, addG (fun x => C x j) (fun _ => false) i y = true ↔ y = i := fun y => by
        rw [addG_iff]
        exact ⟨fun h => h.elim (fun h => by cases h) fun h => h.1, fun h => .inr ⟨h, h ▸ hij'.out⟩⟩
      have hMt : ∀ x r, r ∈ colsM (tnM (putM M i j)) s x ↔ r < s ∧ putM M i j r x = true := fun x r => mem_colsM
      have hGi : G i = true := hS.old i ((hG0 i).2 rfl)
      have hGr : ∀ r, G r = true → r = i ∨ C r i = true := fun r hr => by
        by_cases e : r = i
        · exact .inl e
        · refine hS.reach (fun x => x = i ∨ C x i = true) (.inl rfl) (fun a b ha hb => ?_) r (.inr (.inr ⟨hr, ?_⟩))
          · rcases (hmC'.out b a).1 ((hMt a b).1 hb).2 with h | ⟨h, _⟩
            · rcases ha with rfl | ha
              · exact .inr (hclo'.out.has h)
              · exact .inr (hclo'.out.on (hclo'.out.has h) ha)
            · exact .inl h
          · cases hq : addG (fun x => C x j) (fun _ => false) i r
            · rfl
            · exact absurd ((hG0 r).1 hq) e
      have hGp : ∀ x, G x = true → ∀ r, M r x = true → C r j = true ∨ G r = true := fun x hx r hr => by
        have hd := hS.done x (by
          by_cases e : x = i
          · exact .inl e
          · refine .inr ⟨hx, ?_⟩
            cases hq : addG (fun x => C x j) (fun _ => false) i x
            · rfl
            · exact absurd ((hG0 x).1 hq) e)
        rcases hd with h | h | h
        · cases h
        · cases h
        · exact h r ((hMt x r).2 ⟨(hwC'.out r x (hclo'.out.has hr)).1, (hmC'.out r x).2 (.inl hr)⟩)
      have hmore : ∀ k, CF Fc12 Ft12 k → CF Fc Ft k ∨ w.heap.size ≤ k := fun k hk => by
        rcases hv12'.out.more k hk with h | h
        · rcases hv11'.out.more k h with h | h
          · exact .inl h
          · exact .inr (Nat.le_trans hzw.out h)
        · exact .inr (Nat.le_trans hzw.out (Nat.le_trans hv11'.out.far.size h))
      refine ⟨rfl, Fs1, Fb2, Fc12, Ft12, gainC C G j, told12, ⟨hG.kb, hst11.out.kept hv12'.out.far (fun k hk h => h.elim (hx11.out k (hsx'.out k hk)).1 (hx11.out k (hsx'.out k hk)).2), hG.mb, hG.mc, (moreC_clo hclo'.out hmC'.out).congr (fun _ _ => rfl) (gainC_all hclo'.out hGi hGr hGp), hd1'.out, fun k hk => (hG.x1 k (hsx'.out k hk)).1, fun k hk => (hG.x1 k (hbX'.out k hk)).1⟩, hG.ti, hm12'.out, fun k hk => ?_, ⟨?_, fun k hk => ?_⟩⟩
      · rcases hk with rfl | h | h | h
        · exact (hG.x1 _ hBX'.out).2
        · exact (hG.x1 k (hsx'.out k h)).2
        · exact (hG.x1 k (hbX'.out k h)).2
        · exact hG.x2 k h
      · have h1 : Far (KT2 B Fs Fb Fc Ft) w W10 := hfw10'.out.mono fun k _ h => .inl (h.elim (fun h => .inr (.inl h)) fun h => .inr (.inr (.inl h)))
        have hct : ∀ k, CF Fc Ft k → KT2 B Fs Fb Fc Ft k := fun k h => h.elim (fun h => .inl (.inr (.inr (.inr h)))) fun h => .inr h
        refine (h1.trans hv11'.out.far fun k _ h => hct k h).trans hv12'.out.far fun k hk h => ?_
        rcases hv11'.out.more k h with h | h
        · exact hct k h
        · have := hzw.out; omega
      · rcases hk with (h | h | h | h) | h
        · exact .inl (.inl (.inl h))
        · exact (hF1'.out k h).imp (fun h => .inl (.inr (.inl h))) id
        · exact (hF2'.out k h).imp (fun h => .inl (.inr (.inr (.inl h)))) id
        · exact (hmore k (.inl h)).imp (fun h => h.elim (fun h => .inl (.inr (.inr (.inr h)))) fun h => .inr h) id
        · exact (hmore k (.inr h)).imp (fun h => h.elim (fun h => .inl (.inr (.inr (.inr h)))) fun h => .inr h) id
end
end
end Go.Proofs.YtjolkhiggcmoiaaGreatDoor
/-! ## QRAwakeM: QRAwakeM: QRSort, QRKAdd, QRAwake. -/
/-! ## QRSort: Cells sorted by the library. -/
namespace Go.Proofs.YtjolkhiggcmoiaaGreatDoor
open Go.RowKit Go.Sort Go.Shelf
set_option linter.unusedVariables false
set_option linter.unusedSimpArgs false
theorem flat_len2 {α : Type} (f : α → List Value) (k : Nat) (hf : ∀ x, (f x).length = k) (l : List α) : (l.flatMap f).length = l.length * k := by
  induction l with
  | nil => simp
  | cons x l ih => rw [List.flatMap_cons, List.length_append, ih, hf, List.length_cons, Nat.succ_mul]; omega
theorem flat_get2 {α : Type} (f : α → List Value) (k : Nat) (hf : ∀ x, (f x).length = k) : ∀ (l : List α) (i j : Nat) (x : α), l[i]? = some x → j < k → (l.flatMap f)[i * k + j]? = (f x)[j]?
  | y :: l, 0, j, x, h, hj => by
    simp only [List.getElem?_cons_zero, Option.some.injEq] at h
    subst h
    rw [List.flatMap_cons, List.getElem?_append_left (by rw [hf]; omega), Nat.zero_mul, Nat.zero_add]
  | y :: l, i + 1, j, x, h, hj => by
    rw [List.getElem?_cons_succ] at h
    rw [List.flatMap_cons, List.getElem?_append_right (by rw [hf, Nat.succ_mul]; omega), hf, show (i + 1) * k + j - k = i * k + j by rw [Nat.succ_mul]; omega]
    exact flat_get2 f k hf l i j x h hj
section
variable {α : Type} [Inhabited α] (enc : α → List Value) (k : Nat)
theorem flat_list (hk : ∀ x, (enc x).length = k) (l : List α) : (flatK enc k l.toArray).toList = l.flatMap enc := by
  apply List.ext_getElem?
  intro j
  by_cases hj : j < l.length * k
  · have h0 : 0 < k := by
      rcases Nat.eq_zero_or_pos k with h | h
      · subst h; omega
      · exact h
    have hi : j / k < l.length := Nat.div_lt_of_lt_mul (by rw [Nat.mul_comm]; exact hj)
    have hr : j % k < k := Nat.mod_lt _ h0
    have e : j / k * k + j % k = j := by rw [Nat.mul_comm]; exact Nat.div_add_mod j k
    have h1 := flat_get2 enc k hk l (j / k) (j % k) _ (List.getElem?_eq_getElem hi) hr
    rw [e] at h1
    have hs : j < (flatK enc k l.toArray).size := by simpa using hj
    have h2 := get_flatK enc k l.toArray j (by simpa using hj)
    rw [getElem!_pos (flatK enc k l.toArray) j hs] at h2
    have ha : l.toArray[j / k]! = l[j / k] := by rw [getElem!_pos l.toArray (j / k) (by simpa using hi)]; simp
    rw [ha, getElem!_pos (enc l[j / k]) (j % k) (by rw [hk]; exact hr)] at h2
    rw [h1, Array.getElem?_toList, Array.getElem?_eq_getElem hs, h2, List.getElem?_eq_getElem (by rw [hk]; exact hr)]
  · have h1 : (flatK enc k l.toArray).toList.length ≤ j := by simp; omega
    have h2 : (l.flatMap enc).length ≤ j := by rw [flat_len2 enc k hk]; omega
    rw [List.getElem?_eq_none h1, List.getElem?_eq_none h2]
theorem sort_far (w : World) (g m : Nat) (dk : Array α) (os : Array Obj) : Far (fun b => b = g) w (sortWorldK enc k w g 0 m dk os) := by
  unfold sortWorldK
  refine ⟨rfl, rfl, rfl, by simp [grow, putRowK], fun b hb hne => ?_⟩
  have h1 : (putRowK enc k (Sort.ahead w m) g 0 dk).heap.size = w.heap.size := by simp [putRowK]
  have h2 : g ≠ b := fun e => hne e.symm
  rw [show (grow (putRowK enc k (Sort.ahead w m) g 0 dk) os).heap = (putRowK enc k (Sort.ahead w m) g 0 dk).heap ++ os from rfl, Array.getElem?_append_left (by omega)]
  simp [putRowK, putRow, mapBlock, Sort.ahead, Array.getElem?_modify, h2]
theorem sort_block (w : World) (g m : Nat) (dk : Array α) (os : Array Obj) {cur : Array Value} {e : TypeId} {fr : Nat × Nat} (hb : w.heap[g]? = some (.cells cur e fr)) : (sortWorldK enc k w g 0 m dk os).heap[g]? = some (.cells (putCells id 0 (flatK enc k dk) cur) e fr) := by
  have hg : g < w.heap.size := (Array.getElem?_eq_some_iff.1 hb).1
  unfold sortWorldK
  rw [show (grow (putRowK enc k (Sort.ahead w m) g 0 dk) os).heap = (putRowK enc k (Sort.ahead w m) g 0 dk).heap ++ os from rfl, Array.getElem?_append_left (by simp [putRowK]; omega)]
  simp [putRowK, putRow, mapBlock, Sort.ahead, Array.getElem?_modify, hb, onCells]
theorem take_put (cur f : Array Value) (h : f.size ≤ cur.size) : (putCells id 0 f cur).toList.take f.size = f.toList := by
  apply List.ext_getElem?
  intro j
  by_cases hj : j < f.size
  · rw [List.getElem?_take_of_lt hj, Array.getElem?_toList, Array.getElem?_toList]
    simp [putCells, hj, show j < cur.size by omega]
  · rw [List.getElem?_take_eq_none (by omega), List.getElem?_eq_none (by simp; omega)]
end
def RGrew (w w' : World) : Prop := ∃ q os, w' = Sort.grow (w.drewN q) os
theorem RGrew.refl (w : World) : RGrew w w := ⟨0, #[], by simp [Sort.grow, World.drewN]⟩
theorem RGrew.two (w : World) (o o' : Obj) : RGrew w ((w.alloc o).alloc o') := by
  refine ⟨0, #[o] ++ #[o'], ?_⟩
  rw [Sort.alloc_eq_grow, Sort.alloc_eq_grow, Sort.grow_grow]
  rfl
abbrev MemC (T : List (Nat × Nat)) := { t : Nat × Nat // t ∈ T }
def encC2 {T : List (Nat × Nat)} (x : MemC T) : List Value := [.int .i64 (x.1.1 : Nat), .int .i64 (x.1.2 : Nat)]
/-- The order of cells. -/
def cfC (x y : Nat × Nat) : Int := if x.1 = y.1 then (x.2 : Int) - (y.2 : Int) else (x.1 : Int) - (y.1 : Int)
theorem cfC_lt {x y : Nat × Nat} : cfC x y < 0 ↔ lexLt x y := by
  unfold cfC lexLt
  split <;> omega
theorem cfC_swo (T : List (Nat × Nat)) : SWO (ltOf fun x y : MemC T => cfC x.1 y.1) where
  irrefl := fun x => by
    unfold ltOf cfC
    simp
  trans := fun x y z h1 h2 => by
    unfold ltOf at *
    rw [decide_eq_true_eq, cfC_lt] at *
    unfold lexLt at *
    omega
  ntrans := fun x y z h1 h2 => by
    unfold ltOf at *
    rw [decide_eq_false_iff_not, cfC_lt] at *
    unfold lexLt at *
    omega
theorem attach_ccells (T : List (Nat × Nat)) : T.attach.flatMap encC2 = ccells T := by
  have h : ccells T = ccells (T.attach.map Subtype.val) := by rw [List.attach_map_subtype_val]
  rw [h]
  unfold encC2 ccells
  rw [List.flatMap_map]
  rfl
section
set_option maxHeartbeats 4000000
set_option maxRecDepth 100000
theorem rise_any (r c r' c' : Nat) (h1 : r < 1024) (h2 : c < 1024) (h3 : r' < 1024) (h4 : c' < 1024) (w : World) :
    Calls Tryz.prog 64 #[.agg #[.int .i64 (r : Nat), .int .i64 (c : Nat)], .agg #[.int .i64 (r' : Nat), .int .i64 (c' : Nat)]] w fun e w' => e = .returned (.int .i64 (cfC (r, c) (r', c'))) ∧ RGrew w w' := by
  unfold cfC
  dsimp only
  by_cases e : r = r'
  · rw [if_pos e]
    obtain ⟨d, hd⟩ : ∃ d, (c : Int) - (c' : Int) = d := ⟨_, rfl⟩
    have hw1 : IntKind.i64.wrap d = d := by rw [IntKind.wrap_i64]; omega
    have ne1 : ((r : Int) != (r' : Int)) = false := by simp; omega
    have hd' := hd
    rw [hd']
    go_enter Tryz.func64, Tryz.ntmps64
    go_wp2_with fail
    go_ret
    exact ⟨rfl, RGrew.two _ _ _⟩
  · rw [if_neg e]
    obtain ⟨d, hd⟩ : ∃ d, (r : Int) - (r' : Int) = d := ⟨_, rfl⟩
    have hw1 : IntKind.i64.wrap d = d := by rw [IntKind.wrap_i64]; omega
    have ne1 : ((r : Int) != (r' : Int)) = true := by simp; omega
    have ne2 : ¬ (r : Int) = (r' : Int) := by omega
    have hd' := hd
    rw [hd']
    go_enter Tryz.func64, Tryz.ntmps64
    go_wp2_with fail
    go_ret
    exact ⟨rfl, RGrew.two _ _ _⟩
end
/-- The slice is sorted: what it held, in the order of cells. -/
theorem csort_any (B : Nat) (pv : Value) (T : List (Nat × Nat)) (w : World) (hP : w.ownsRow B 71 2 pv T.length (ccells T)) (hb : ∀ x ∈ T, x.1 < 1024 ∧ x.2 < 1024) (hs : T.length ≤ 1048576) :
    Calls Tryz.prog 63 #[pv, .func (.func 64) #[] #[]] w fun e w' => e = .returned (.tuple #[]) ∧ ∃ T', T'.Perm T ∧ T'.Pairwise (fun x y => ¬ lexLt y x) ∧ w'.ownsRow B 71 2 pv T'.length (ccells T') ∧ Far (fun k => pv.ownBlock = some k) w w' := by
  by_cases h0 : T = []
  · subst h0
    obtain ⟨ao, c, rfl⟩ := q_form hP
    have hS := AnyF.slices_SortFunc_none (P := Tryz.prog) { Tryz.sortC with } ao c (.func (.func 64) #[] #[]) w
    refine Calls.mono hS ?_
    rintro e w' ⟨rfl, rfl⟩
    exact ⟨rfl, [], List.Perm.refl _, List.Pairwise.nil, hP, Far.refl _ _⟩
  · rcases hP.2 with ⟨_, hn⟩ | ⟨g, cap, cur, rfl, hB, hbk, hcap, hmax, hsz, htk⟩
    · exact absurd (List.eq_nil_of_length_eq_zero hn) h0
    · obtain ⟨t0, ht0⟩ : ∃ t, t ∈ T := List.exists_mem_of_ne_nil T h0
      letI : Inhabited (MemC T) := ⟨⟨t0, ht0⟩⟩
      have hgl : g < w.heap.size := (Array.getElem?_eq_some_iff.1 hbk).1
      have hla : T.attach.toArray.size = T.length := by simp
      have hH : HoldsK (encC2 (T := T)) 2 w g 0 T.attach.toArray := by
        intro j hj
        have hj' : j < T.length * 2 := by simpa using hj
        have e1 := flat_list (encC2 (T := T)) 2 (fun _ => rfl) T.attach
        rw [attach_ccells] at e1
        refine ⟨?_, frozen_of_row w g (0 + j) cur _ hbk⟩
        rw [Nat.zero_add, cell_of_row w g j cur _ (0, 0) hbk, ← Array.getElem?_toList, ← List.getElem?_take_of_lt (show j < T.length * 2 from hj'), htk, ← e1, Array.getElem?_toList, getElem!_pos _ j hj, Array.getElem?_eq_getElem hj]
        rfl
      have hcmp : CmpLays Tryz.prog 64 #[] (encC2 (T := T)) 2 (fun x y : MemC T => cfC x.1 y.1) g 0 T.attach.toArray.size w := fun m os dk hdk x y =>
        rise_any x.1.1 x.1.2 y.1.1 y.1.2 (hb _ x.2).1 (hb _ x.2).2 (hb _ y.2).1 (hb _ y.2).2 _
      have hcon := AnyQ.slices_SortFunc Tryz.sortC 2 Tryz.isAgg71 Tryz.sizeOf71 (encC2 (T := T)) (fun _ => rfl) (fun x v hv => by
        simp [encC2] at hv
        rcases hv with rfl | rfl <;> rfl) (fun x y : MemC T => cfC x.1 y.1) (cfC_swo T) 64 #[] g 0 cap T.attach.toArray w (enters_of Tryz.func64 (by kernel_rfl) rfl) hcmp hH hgl (by rw [hla]; omega)
      rw [hla] at hcon
      refine Calls.mono hcon ?_
      rintro e w' ⟨rfl, d', n, os, hp, hsd, rfl⟩
      have hd : d'.size = T.length := by rw [hp.1, hla]
      have hx1 : d'.extract 0 T.length = d' := by rw [← hd]; simp
      have hx2 : T.attach.toArray.extract 0 T.length = T.attach.toArray := by have := Array.extract_size (xs := T.attach.toArray); rwa [hla] at this
      have hperm : d'.toList.Perm T.attach := by have := hp.2.2; rw [hx1, hx2] at this; simpa using this
      have hpt : (d'.toList.map Subtype.val).Perm T := by have := hperm.map Subtype.val; rwa [List.attach_map_subtype_val] at this
      have hlen : (d'.toList.map Subtype.val).length = T.length := by simp [hd]
      refine ⟨rfl, d'.toList.map Subtype.val, hpt, ?_, ?_, (sort_far _ 2 w g n d' os).mono fun k _ e => by rw [e]; rfl⟩
      · rw [List.pairwise_map, List.pairwise_iff_getElem]
        intro i j hi hj hij
        have hi' : i < d'.size := by simpa using hi
        have hj' : j < d'.size := by simpa using hj
        have := hsd i j (Nat.zero_le _) hij (by omega)
        rw [getElem!_pos d' i hi', getElem!_pos d' j hj'] at this
        have h1 : ¬ cfC d'[j].1 d'[i].1 < 0 := by simpa [ltOf] using this
        simp only [Array.getElem_toList]
        exact fun h => h1 (cfC_lt.2 h)
      · rw [hlen]
        refine ⟨by rw [ccells_len, hlen], .inr ⟨g, cap, _, rfl, hB, sort_block _ 2 w g n d' os hbk, hcap, hmax, by simp [putCells, hsz], ?_⟩⟩
        have e1 := flat_list (encC2 (T := T)) 2 (fun _ => rfl) d'.toList
        have e2 : (flatK (encC2 (T := T)) 2 d').size = T.length * 2 := by simp [hd]
        have e3 := take_put cur (flatK (encC2 (T := T)) 2 d') (by rw [e2, hsz]; exact Nat.mul_le_mul_right 2 hcap)
        rw [e2] at e3
        rw [e3]
        simp only [Array.toArray_toList] at e1
        rw [e1]
        unfold encC2 ccells
        rw [List.flatMap_map]
        rfl
/-- Of cells that are told once each, sorted: the matrix's own list. -/
theorem sorted_cells {T T' : List (Nat × Nat)} {D : Nat → Nat → Bool} {s : Nat} (hp : T'.Perm T) (hr : T'.Pairwise fun x y => ¬ lexLt y x) (hn : T.Nodup) (hm : ∀ x, x ∈ T ↔ D x.1 x.2 = true) (hw : ∀ r c, D r c = true → r < s ∧ c < s) : T' = cellsL D s := by
  have hn' : T'.Nodup := hp.nodup_iff.2 hn
  have hr' : T'.Pairwise lexLt := (hr.and hn').imp fun {x y} ⟨h1, h2⟩ => by
    unfold lexLt at *
    have : x.1 ≠ y.1 ∨ x.2 ≠ y.2 := by
      by_cases e1 : x.1 = y.1
      · exact .inr fun e2 => h2 (Prod.ext e1 e2)
      · exact .inl e1
    omega
  exact (rise_eq (cellsK_rise D s s) hr' fun x => (mem_cellsL hw).trans ((hm x).symm.trans hp.mem_iff.symm)).symm
end Go.Proofs.YtjolkhiggcmoiaaGreatDoor
/-! ## QRKAdd: A keeper's Add: the cells that are new, rising. -/
namespace Go.Proofs.YtjolkhiggcmoiaaGreatDoor
open Go.RowKit Go.Shelf
set_option linter.unusedVariables false
set_option linter.unusedSimpArgs false
/-- A list of cells of the call's own in a variable. -/
def FT (hf b0 : Nat) (t : List (Nat × Nat)) (F : Nat → Prop) (V : World) : Prop := ∃ v, Bk V hf 22 #[v] ∧ V.ownsRow b0 71 2 v t.length (ccells t) ∧ F = fun k => k = hf ∨ v.ownBlock = some k
theorem cell_infoC : (Tryz.prog.info? 71).map (fun i => (i.zero, i.size, i.bytes)) = some (some (.agg #[.int .i64 0, .int .i64 0]), 2, 16) := by kernel_rfl
section
set_option maxHeartbeats 4000000
set_option maxRecDepth 100000
theorem fresh_any {s hf b0 : Nat} (hs : s ≤ 1024) (hb0 : b0 ≤ hf) : Tel s 62 #[.pointer (some ⟨hf, 0, none⟩)] (FT hf b0) where
  enter := enters_of Tryz.func62 (by kernel_rfl) rfl
  lt := by
    rintro t F V ⟨v, hb, ho, rfl⟩ k (rfl | hk)
    · exact hb.lt
    · exact (ho.lt k hk).2
  still := by
    rintro t F V V' H ⟨v, hb, ho, rfl⟩ hfar hn
    exact ⟨v, hb.far' hfar (hn _ (.inl rfl)), row_same ho fun k hk hl => hfar.block k hl (hn k (.inr hk)), rfl⟩
  tell := by
    rintro t F V ⟨v, hb, ho, rfl⟩ r c hr hc ht
    obtain ⟨ao, cap, rfl⟩ := q_form ho
    obtain ⟨n, hn⟩ : ∃ n, t.length = n := ⟨_, rfl⟩
    rw [hn] at hb ho ht ⊢
    obtain ⟨i0, hi0, hz0, hz1, hz2⟩ := info_parts cell_infoC
    have c0 : V.cell? ⟨hf, 0, none⟩ = some (.slice ao n cap) := hb.cell 0
    have A1 := Lib.hid (ho.alloc (.cells #[.int .i64 (r : Nat), .int .i64 (c : Nat)] 71))
    have A2 := Lib.hid (World.news_of_block (w := V.alloc (.cells #[.int .i64 (r : Nat), .int .i64 (c : Nat)] 71)) (cs := #[.int .i64 (r : Nat), .int .i64 (c : Nat)]) (t := 71) (fr := (0, 0)) (heap_alloc_new V _))
    have A3 : ∀ u ∈ (#[.int .i64 (r : Nat), .int .i64 (c : Nat)] : Array Value).toList, u.oneCell' = true := fun u hu => by simp at hu; rcases hu with rfl | rfl <;> rfl
    have A4 : n + 1 ≤ maxLen := by unfold maxLen; omega
    have A5 : (n + 1) * 16 ≤ 140737488355328 := by omega
    have A7 : b0 ≤ (V.alloc (.cells #[.int .i64 (r : Nat), .int .i64 (c : Nat)] 71)).heap.size := by have := hb.lt; simp; omega
    have hn8 : (Value.slice ao n cap).ownBlock ≠ some hf := fun e => by
      obtain ⟨_, _, cs, hb2⟩ := own_type ho e
      have := bk_type hb2 hb
      revert this
      decide
    have hb' := Lib.hid hb
    have ho' := Lib.hid ho
    have hn' := Lib.hid hn
    clear hb ho hn
    go_enter Tryz.func62, Tryz.ntmps62
    go_wp2_with (at_builtin; refine wpList_append_lies _ rfl _ _ 22 rfl b0 71 i0 _ 2 16 Tryz.underlying22 hi0 hz0 hz1 hz2 rfl (by decide) (.slice ao n cap) n _ rfl A1.out ⟨V.heap.size, 0, none⟩ 1 1 (#[.int .i64 (r : Nat), .int .i64 (c : Nat)] : Array Value).toList rfl rfl A2.out A3 (by decide) A4 A5 A7 _ rfl ?_; intro fg fc w4 ho4 hg4 hat4 hl4; have b84 : Bk w4 hf 22 #[.slice ao n cap] := (hb'.out.alloc _).grownR hg4 (fun e => hn8 e.symm); have f84 := b84.free 0; have c84 : w4.cell? ⟨hf, 0, none⟩ = some (.slice ao n cap) := b84.cell 0; have b84' := Lib.hid b84; have ho4' := Lib.hid ho4; have hg4' := Lib.hid hg4; have hat4' := Lib.hid hat4; clear ho4 hg4 hat4 b84)
    go_end0
    have hne : fg ≠ hf := fun e => by
      subst e
      obtain ⟨_, _, cs, hb2⟩ := own_type ho4'.out rfl
      have := bk_type hb2 b84'.out
      revert this
      decide
    refine ⟨rfl, _, ⟨_, b84'.out.set 0 _, ?_, rfl⟩, ⟨?_, ?_⟩⟩
    · rw [List.length_append, List.length_singleton, hn'.out, ccells_app]
      exact row_same ho4'.out fun k hk hl => heap_setCell_other _ _ _ _ fun e => by
        cases hk
        exact hne e
    · exact (((Far.refl (fun k => k = hf ∨ (Value.slice ao n cap).ownBlock = some k) V).alloc _).grown hg4'.out fun k hk e => .inr e).set _ _ fun _ => .inl rfl
    · rintro k (rfl | hk)
      · exact .inl (.inl rfl)
      · cases hk
        rcases hat4'.out with e | e
        · exact .inl (.inr e)
        · exact .inr (by rw [e]; simp)
end
section
variable {w w' : World} {B ps pb pc s : Nat} {Fs Fb Fc : Nat → Prop} {M C : Nat → Nat → Bool}
set_option maxHeartbeats 8000000
set_option maxRecDepth 100000
theorem kAdd_no (h : Kp w B ps pb pc Fs Fb Fc s M C) (i j : Int) (hE : wrE s i j = 2) : Calls Tryz.prog 24 #[.pointer (some ⟨B, 0, none⟩), .int .i64 i, .int .i64 j] w fun e w' => e = .returned (.tuple #[.slice none 0 0, .int .i64 2]) ∧ Far (fun _ => False) w w' := by
  have HS := khas_any h i j
  rw [hE, if_neg (by decide)] at HS
  clear h hE
  go_enter Tryz.func24, Tryz.ntmps24
  go_wp2_with fail
  refine HS.mono ?_
  rintro e w1 ⟨rfl, hf1⟩
  have hf1' := Lib.hid hf1
  clear HS hf1
  go_wp2_with fail
  go_ret2
  exact ⟨rfl, hf1'.out⟩
theorem kAdd_yes (h : Kp w B ps pb pc Fs Fb Fc s M C) (hT : Tab w) (htab : ∀ k, KF B Fs Fb Fc k → k ≠ 0) (i j : Nat) (hi : i < s) (hj : j < s) : Calls Tryz.prog 24 #[.pointer (some ⟨B, 0, none⟩), .int .i64 (i : Nat), .int .i64 (j : Nat)] w fun e w' => ∃ v Fs' Fb' Fc' C', e = .returned (.tuple #[v, .int .i64 0]) ∧ Kp w' B ps pb pc Fs' Fb' Fc' s (putM M i j) C' ∧ (∀ r c, C r c = true → C' r c = true) ∧ w'.ownsRow w.heap.size 71 2 v (cellsL (lsM C' C) s).length (ccells (cellsL (lsM C' C) s)) ∧ (∀ k, v.ownBlock = some k → ¬ KF B Fs' Fb' Fc' k) ∧ Mv w w' (KF B Fs Fb Fc) (KF B Fs' Fb' Fc') := by
  have HS := khas_any h (i : Int) (j : Int)
  obtain ⟨hs1, hs2⟩ := h.st.sides
  rw [wrE_in (by omega) ⟨⟨by omega, by omega⟩, by omega, by omega⟩, if_pos rfl, Int.toNat_natCast, Int.toNat_natCast] at HS
  have h' := Lib.hid h
  have hT' := Lib.hid hT
  have htab' := Lib.hid htab
  clear h hT htab
  go_enter Tryz.func24, Tryz.ntmps24
  go_wp2_with fail
  refine HS.mono ?_
  rintro e w1 ⟨rfl, hf1⟩
  have hf1' := Lib.hid hf1
  clear HS hf1
  obtain ⟨hb, hhb⟩ : ∃ h, h = w1.heap.size := ⟨_, rfl⟩
  obtain ⟨W2, hW2⟩ : ∃ V, V = w1.alloc (.cells #[.slice none 0 0] 22) := ⟨_, rfl⟩
  have b2 : Bk W2 hb 22 #[.slice none 0 0] := hW2 ▸ Bk.new hhb
  have hf2 : Far (fun _ => False) w W2 := hW2 ▸ hf1'.out.alloc _
  have hbw : w.heap.size ≤ hb := by rw [hhb]; exact hf1'.out.size
  have hti : FT hb w.heap.size [] (fun k => k = hb ∨ (Value.slice none 0 0).ownBlock = some k) W2 := ⟨_, b2, World.ownsRow_nil _ _ _ _, rfl⟩
  have KA := kadd_any (h'.out.still hf2) (fresh_any hs2 hbw) hti (hT'.out.still hf2) (fun k hk e => by
    have := h'.out.lt hk
    rcases e with rfl | e
    · omega
    · cases e) (fun k hk => by
    rcases hk with hk | rfl | e
    · exact htab'.out k hk
    · have := hT'.out.lt; omega
    · cases e) hi hj
  have hf2' := Lib.hid hf2
  have hW2' := Lib.hid hW2
  have hhb' := Lib.hid hhb
  clear hf2 hW2 hhb hti b2
  go_upto_region 5 with fail
  rw [← hhb'.out, ← hW2'.out]
  go_wp2_with fail
  refine KA.mono ?_
  rintro e w3 ⟨rfl, Fs', Fb', Fc', Ft', C', told, hK3, ⟨v3, hb3, ho3, rfl⟩, hm3, hd3, hv3⟩
  obtain ⟨ao, cap, rfl⟩ := q_form ho3
  have c3 : w3.cell? ⟨hb, 0, none⟩ = some (.slice ao told.length cap) := hb3.cell 0
  have hwC' := hK3.cl.within
  have SO := csort_any w.heap.size (.slice ao told.length cap) told w3 ho3 (fun x hx => by
    have := hwC' _ _ ((hm3.mem x).1 hx).1
    omega) (hm3.few hs2 hwC')
  have hK3' := Lib.hid hK3
  have hb3' := Lib.hid hb3
  have ho3' := Lib.hid ho3
  have hm3' := Lib.hid hm3
  have hd3' := Lib.hid hd3
  have hv3' := Lib.hid hv3
  have hwC'' := Lib.hid hwC'
  clear KA hK3 hb3 ho3 hm3 hd3 hv3 hwC'
  go_wp2_with fail
  refine SO.mono ?_
  rintro e w4 ⟨rfl, T', hp, hr, ho4, hf4⟩
  have hne : (Value.slice ao told.length cap).ownBlock ≠ some hb := fun e => by
    obtain ⟨_, _, cs, hb2⟩ := own_type ho3'.out e
    have := bk_type hb2 hb3'.out
    revert this
    decide
  have c4 : w4.cell? ⟨hb, 0, none⟩ = some (.slice ao told.length cap) := (hb3'.out.far' hf4 fun e => hne e).cell 0
  have hsc := sorted_cells (D := lsM C' C) (s := s) hp hr hm3'.out.nod (fun x => by
    rw [hm3'.out.mem]
    unfold lsM
    rw [Bool.and_eq_true, Bool.not_eq_true']) (fun r c e => by
    unfold lsM at e
    rw [Bool.and_eq_true] at e
    exact hwC''.out r c e.1)
  have hlen := hp.length_eq
  have ho4' := Lib.hid ho4
  have hf4' := Lib.hid hf4
  have hsc' := Lib.hid hsc
  have hlen' := Lib.hid hlen
  clear SO hp hr ho4 hf4 hsc hlen c3
  go_wp2_with fail
  go_ret2
  have hkeep : ∀ k, KF B Fs' Fb' Fc' k → ¬ (Value.slice ao told.length cap).ownBlock = some k := fun k hk e => hd3'.out k hk (.inr e)
  refine ⟨_, Fs', Fb', Fc', C', rfl, hK3'.out.kept hf4'.out hkeep, hm3'.out.sub, ?_, fun k hk hk2 => hkeep k hk2 hk, ⟨?_, fun k hk => ?_⟩⟩
  · rw [← hsc'.out]
    have := ho4'.out
    rw [hlen'.out] at this ⊢
    exact this
  · have h1 : Far (fun k => KF B Fs Fb Fc k) w w3 := (hf2'.out.mono fun _ _ h => h.elim).trans hv3'.out.far fun k hk h => by
      rcases h with h | rfl | h
      · exact h
      · omega
      · cases h
    exact h1.trans hf4'.out fun k hk e => by
      have := (ho3'.out.lt k e).1
      omega
  · rcases hv3'.out.more k (.inl hk) with (h | rfl | h) | h
    · exact .inl h
    · exact .inr hbw
    · cases h
    · exact .inr (Nat.le_trans hf2'.out.size h)
end
end Go.Proofs.YtjolkhiggcmoiaaGreatDoor
/-! ## QRAwake: A new keeper; the law's awake. -/
namespace Go.Proofs.YtjolkhiggcmoiaaGreatDoor
open Go.RowKit Go.Shelf
set_option linter.unusedVariables false
set_option linter.unusedSimpArgs false
theorem tnM_zero : ∀ r c, tnM zeroM r c = zeroM r c := fun _ _ => rfl
section
set_option maxHeartbeats 8000000
set_option maxRecDepth 100000
theorem knew_yes (s : Nat) (h1 : 1 ≤ s) (h2 : s ≤ 1024) (w : World) : Calls Tryz.prog 13 #[.int .i64 (s : Nat)] w fun e w' => ∃ B ps pb pc Fs Fb Fc, e = .returned (.tuple #[.pointer (some ⟨B, 0, none⟩), .int .i64 0]) ∧ Kp w' B ps pb pc Fs Fb Fc s zeroM zeroM ∧ (∀ k, KF B Fs Fb Fc k → w.heap.size ≤ k) ∧ Far (fun _ => False) w w' := by
  have NW := qnew_yes s h1 h2 w
  go_enter Tryz.func13, Tryz.ntmps13
  go_wp2_with fail
  refine NW.mono ?_
  rintro e w1 ⟨rfl, lv, hlv, hwd, hBm, hf1⟩
  have hM1 := Mx.new (w := w) h1 h2 hlv hwd hBm
  obtain ⟨p0, hp0⟩ : ∃ p, p = w.heap.size := ⟨_, rfl⟩
  rw [← hp0] at hM1 ⊢
  have hF1 : ∀ k, Qf p0 (.slice none 0 0) (.slice none 0 0) k → w.heap.size ≤ k := fun k hk => by
    rw [Qf_none hk, hp0]; exact Nat.le_refl _
  obtain ⟨F1, hF1e⟩ : ∃ F, Qf p0 (.slice none 0 0) (.slice none 0 0) = F := ⟨_, rfl⟩
  rw [hF1e] at hM1 hF1
  have CP1 := qcopy_any hM1
  have hM1' := Lib.hid hM1
  have hf1' := Lib.hid hf1
  have hF1' := Lib.hid hF1
  clear NW hlv hwd hBm hf1 hM1 hF1 hF1e hp0
  go_wp2_with fail
  refine CP1.mono ?_
  rintro e w2 ⟨p2, rfl, F2, hM2, hlo2, hf2⟩
  have hM12 := hM1'.out.still hf2
  have CP2 := qcopy_any hM12
  have hM2' := Lib.hid hM2
  have hM12' := Lib.hid hM12
  have hlo2' := Lib.hid hlo2
  have hf2' := Lib.hid hf2
  clear CP1 hM2 hM12 hlo2 hf2
  go_wp2_with fail
  refine CP2.mono ?_
  rintro e w3 ⟨p3, rfl, F3, hM3, hlo3, hf3⟩
  have hM3' := Lib.hid hM3
  have hlo3' := Lib.hid hlo3
  have hf3' := Lib.hid hf3
  clear CP2 hM3 hlo3 hf3
  go_wp2_with fail
  go_ret2
  have ha : Far (fun _ => False) w3 (w3.alloc (.cells #[.pointer (some ⟨p0, 0, none⟩), .pointer (some ⟨p2, 0, none⟩), .pointer (some ⟨p3, 0, none⟩)] 90)) := (Far.refl _ w3).alloc _
  have hz1 := hf1'.out.size
  have hz2 := hf2'.out.size
  have hz3 := hf3'.out.size
  refine ⟨w3.heap.size, p0, p2, p3, F1, F2, F3, rfl, ⟨Bk.new rfl, (hM12'.out.still hf3'.out).still ha, ((hM2'.out.still hf3'.out).still ha).congr tnM_zero, hM3'.out.still ha, clo_zero, fun k hk h => ?_, fun k hk h => ?_, fun k hk h => ?_⟩, fun k hk => ?_, (hf1'.out.then (hf2'.out.then hf3'.out)).then ha⟩
  · have := hM1'.out.lt k hk
    have := hlo2'.out k h
    omega
  · have := hM1'.out.lt k hk
    have := hlo3'.out k h
    omega
  · have := hM2'.out.lt k hk
    have := hlo3'.out k h
    omega
  · rcases hk with rfl | hk | hk | hk
    · omega
    · exact hF1'.out k hk
    · have := hlo2'.out k hk; omega
    · have := hlo3'.out k hk; omega
def a5M1 : Nat → Nat → Bool := moreC zeroM 0 1
def a5M2 : Nat → Nat → Bool := moreC a5M1 1 2
theorem a5_l1 : cellsL (lsM a5M1 zeroM) 3 = [(0, 1)] := by decide
theorem a5_l2 : cellsL (lsM a5M2 a5M1) 3 = [(0, 2), (1, 2)] := by decide
theorem a5_l3 : (cellsL a5M2 3).length = 3 := by decide
theorem putM_iff {M : Nat → Nat → Bool} {i j r c : Nat} : putM M i j r c = true ↔ M r c = true ∨ (r = i ∧ c = j) := by
  unfold putM
  simp only [Bool.or_eq_true, Bool.and_eq_true, decide_eq_true_eq]
theorem clo_fun {M C D : Nat → Nat → Bool} (h : IsClo M C) (h2 : IsClo M D) : C = D := funext fun r => funext fun c => h.same h2 r c
theorem awake05_any (w : World) (hT : Tab w) : Calls Tryz.prog 6 #[] w fun e w' => e = .returned (.bool true) ∧ Far (fun _ => False) w w' := by
  have NW := knew_yes 3 (by decide) (by decide) w
  have hT' := Lib.hid hT
  clear hT
  go_enter Tryz.func6, Tryz.ntmps6
  go_wp2_with fail
  refine NW.mono ?_
  rintro e w1 ⟨B, ps, pb, pc, Fs, Fb, Fc, rfl, hK, hlo, hf1⟩
  have KA := kAdd_yes hK (hT'.out.still hf1) (fun k hk e => by have := hlo k hk; have := hT'.out.lt; omega) 0 1 (by decide) (by decide)
  have hK' := Lib.hid hK
  have hlo' := Lib.hid hlo
  have hf1' := Lib.hid hf1
  clear NW hK hlo hf1
  go_wp2_with fail
  refine KA.mono ?_
  rintro e w2 ⟨v2, Fs2, Fb2, Fc2, C2, rfl, hK2, hs2, ho2, ha2, hv2⟩
  have hC2 : C2 = a5M1 := clo_fun hK2.clo (moreC_clo clo_zero fun r c => putM_iff)
  rw [hC2] at hK2 ho2
  rw [a5_l1] at ho2
  obtain ⟨ao2, cp2, rfl⟩ := q_form ho2
  have hlo2 : ∀ k, KF B Fs2 Fb2 Fc2 k → w.heap.size ≤ k := fun k hk => (hv2.more k hk).elim (hlo'.out k) fun h => Nat.le_trans hf1'.out.size h
  have hf2 : Far (fun _ => False) w w2 := hf1'.out.trans hv2.far fun k hk h => by have := hlo'.out k h; omega
  have KB := kAdd_yes hK2 (hT'.out.still hf2) (fun k hk e => by have := hlo2 k hk; have := hT'.out.lt; omega) 1 2 (by decide) (by decide)
  have hK2' := Lib.hid hK2
  have hlo2' := Lib.hid hlo2
  have hf2' := Lib.hid hf2
  clear KA hK' hlo' hf1' hC2 hK2 hs2 ho2 ha2 hv2 hlo2 hf2
  go_wp2_with fail
  refine KB.mono ?_
  rintro e w3 ⟨v3, Fs3, Fb3, Fc3, C3, rfl, hK3, hs3, ho3, ha3, hv3⟩
  have hC3 : C3 = a5M2 := clo_fun hK3.clo (moreC_clo hK2'.out.clo fun r c => putM_iff)
  rw [hC3] at hK3 ho3
  rw [a5_l2] at ho3
  obtain ⟨ao3, cp3, rfl⟩ := q_form ho3
  have hf3 : Far (fun _ => False) w w3 := hf2'.out.trans hv3.far fun k hk h => by have := hlo2'.out k h; omega
  have KN := kAdd_no hK3 0 3 (by decide)
  obtain ⟨g3, c3, e3, _⟩ := ho3.form (by decide)
  cases e3
  have hK3' := Lib.hid hK3
  have ho3' := Lib.hid ho3
  have hf3' := Lib.hid hf3
  clear KB hK2' hlo2' hf2' hC3 hK3 hs3 ho3 ha3 hv3 hf3
  go_wp2_with fail
  refine KN.mono ?_
  rintro e w4 ⟨rfl, hf4⟩
  have KH := khas_any (hK3'.out.still hf4) 0 2
  rw [wrE_in (by decide) (by decide), if_pos rfl] at KH
  have hf4' := Lib.hid hf4
  clear KN hf4
  go_wp2_with fail
  refine KH.mono ?_
  rintro e w5 ⟨rfl, hf5⟩
  have hf35 := hf4'.out.then hf5
  have KL := klen_any (hK3'.out.still hf35)
  have hnm : numM a5M2 = 3 := by
    have h := cellsL_len hK3'.out.cl.sides.2 hK3'.out.cl.within
    rw [a5_l3] at h
    exact h.symm
  rw [hnm] at KL
  have ho5 := row_same ho3'.out fun k hk hl => hf35.block k hl id
  have d0 : w5.cell? ⟨g3, 0, none⟩ = some (.int .i64 0) := (ho5.cellAt 0 (by decide)).trans rfl
  have d1 : w5.cell? ⟨g3, 1, none⟩ = some (.int .i64 2) := (ho5.cellAt 1 (by decide)).trans rfl
  have hf5' := Lib.hid (hf3'.out.then hf35)
  clear KH hf5 hf35 hnm ho5
  have hat : a5M2 (Int.toNat 0) (Int.toNat 2) = true := by decide
  rw [hat]
  go_wp2_with fail
  refine KL.mono ?_
  rintro e w6 ⟨rfl, hf6⟩
  have hf6' := Lib.hid (hf5'.out.then hf6)
  clear KL hf6 hf5' d0 d1
  go_wp2_with fail
  go_ret
  exact ⟨rfl, hf6'.out⟩
end
end Go.Proofs.YtjolkhiggcmoiaaGreatDoor
