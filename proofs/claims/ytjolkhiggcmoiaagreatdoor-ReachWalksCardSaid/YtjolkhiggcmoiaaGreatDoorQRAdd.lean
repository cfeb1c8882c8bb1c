/-
  A step more: add, whatever it tells of to.
-/
import Derived.Test.YtjolkhiggcmoiaaGreatDoorQRGain
import Derived.Deep.RegionHeld3
import Derived.Laws.EntriesVeiled
namespace Go.Proofs.YtjolkhiggcmoiaaGreatDoor
open Go.RowKit Go.Shelf
set_option linter.unusedVariables false
set_option linter.unusedSimpArgs false
theorem gain_old {C : Nat → Nat → Bool} {G : Nat → Bool} {j r : Nat} (h : (C r j || G r) = true) : gainC C (addG (fun x => C x j) G r) j = gainC C G j := by rw [addG_old h]
theorem gain_new {C : Nat → Nat → Bool} {G : Nat → Bool} {s j r : Nat} (hw : ∀ a b, C a b = true → a < s ∧ b < s) (h : (C r j || G r) = false) : rowS (gainC C G j) r (colsM C s j ++ [j]) = gainC C (addG (fun x => C x j) G r) j := by
  rw [Bool.or_eq_false_iff] at h
  funext a b
  unfold rowS
  rw [Bool.eq_iff_iff]
  simp only [Bool.or_eq_true, Bool.and_eq_true, decide_eq_true_eq, List.mem_append, List.mem_singleton, gainC_iff, mem_colsM, addG_iff]
  constructor
  · rintro ((h1 | ⟨h1, h2⟩) | ⟨rfl, h2⟩)
    · exact .inl h1
    · exact .inr ⟨.inl h1, h2⟩
    · exact .inr ⟨.inr ⟨rfl, h.1⟩, h2.symm.imp id fun h => h.2⟩
  · rintro (h1 | ⟨h1 | ⟨rfl, _⟩, h2⟩)
    · exact .inl (.inl h1)
    · exact .inl (.inr ⟨h1, h2⟩)
    · exact .inr ⟨rfl, h2.symm.imp (fun h => ⟨(hw _ _ h).2, h⟩) id⟩
section
variable {FX : Nat → Prop} {B ps pb pc hk hj hb ht hg b0 gb cb s i j : Nat} {Fb : Nat → Prop} {tf : Nat} {tl : Array Value} {TI : List (Nat × Nat) → (Nat → Prop) → World → Prop} {M C : Nat → Nat → Bool}
/-- What is there while add goes back along steps. -/
def AI (FX : Nat → Prop) (B ps pb pc hk hj hb ht hg b0 gb cb s i j : Nat) (Fb : Nat → Prop) (tf : Nat) (tl : Array Value) (TI : List (Nat × Nat) → (Nat → Prop) → World → Prop) (M C : Nat → Nat → Bool) (G : Nat → Bool) (F : Nat → Prop) (V : World) : Prop :=
  ∃ Fc Ft told, GB FX B ps pb pc hk hj hb ht b0 gb cb s j (colsM C s j ++ [j]) Fb (tnM (putM M i j)) tf tl TI (gainC C G j) Fc Ft told V ∧ TM C (gainC C G j) told ∧ Bk V hg 106 #[.func (.func 92) #[] #[.pointer (some ⟨hk, 0, none⟩), .pointer (some ⟨hj, 0, none⟩), .pointer (some ⟨hb, 0, none⟩), .pointer (some ⟨ht, 0, none⟩)]] ∧ F = CF Fc Ft
section
set_option maxHeartbeats 8000000
set_option maxRecDepth 100000
theorem AI.gain (hT : Tel s tf tl TI) (hs : s ≤ 1024) (hjs : j < s) (hw : ∀ a b, C a b = true → a < s ∧ b < s) (hgx : FX hg) {G : Nat → Bool} {F : Nat → Prop} {V : World} (h : AI FX B ps pb pc hk hj hb ht hg b0 gb cb s i j Fb tf tl TI M C G F V) (r : Nat) (hr : r < s) :
    Calls Tryz.prog 92 #[.int .i64 (r : Nat), .pointer (some ⟨hk, 0, none⟩), .pointer (some ⟨hj, 0, none⟩), .pointer (some ⟨hb, 0, none⟩), .pointer (some ⟨ht, 0, none⟩)] V fun e w' => e = .returned (.bool (!(C r j || G r))) ∧ ∃ F', AI FX B ps pb pc hk hj hb ht hg b0 gb cb s i j Fb tf tl TI M C (addG (fun x => C x j) G r) F' w' ∧ Mv V w' F F' := by
  obtain ⟨Fc, Ft, told, hG, hm, hB, rfl⟩ := h
  have hc := colsM_le C s j
  refine (gain_any hT (fun c hc => by
    rcases List.mem_append.1 hc with h | h
    · exact (mem_colsM.1 h).1
    · rw [List.mem_singleton] at h; omega) (by rw [List.length_append, List.length_singleton]; omega) hs hjs hG hm r hr).mono ?_
  rintro e w' ⟨rfl, Fc', Ft', told', hG', hm', hv⟩
  have hB' : Bk w' hg _ _ := hB.far' hv.far fun h => h.elim (fun h => (hG.x1 _ hgx).1 h) fun h => (hG.x1 _ hgx).2 h
  rw [gainC_col] at hG' hm' ⊢
  refine ⟨rfl, CF Fc' Ft', ⟨Fc', Ft', told', ?_, ?_, hB', rfl⟩, hv⟩
  · cases hb : (C r j || G r) with
    | true => rw [hb, if_pos rfl] at hG'; rw [gain_old hb]; exact hG'
    | false => rw [hb, if_neg (by simp), gain_new hw hb] at hG'; exact hG'
  · cases hb : (C r j || G r) with
    | true => rw [hb, if_pos rfl] at hm'; rw [gain_old hb]; exact hm'
    | false => rw [hb, if_neg (by simp), gain_new hw hb] at hm'; exact hm'
theorem flw_add (hT : Tel s tf tl TI) (hs : s ≤ 1024) (hjs : j < s) (hw : ∀ a b, C a b = true → a < s ∧ b < s) (hgx : FX hg) :
    Flw s (fun x => C x j) (fun x => colsM (tnM (putM M i j)) s x) FX (AI FX B ps pb pc hk hj hb ht hg b0 gb cb s i j Fb tf tl TI M C) 23 (.pointer (some ⟨pb, 0, none⟩)) 93 #[.pointer (some ⟨hg, 0, none⟩)] where
  within := fun x hx j hj => (mem_colsM.1 hj).1
  few := fun x => Nat.le_trans (colsM_le _ _ _) hs
  erow := enters_of Tryz.func23 (by kernel_rfl) rfl
  ego := enters_of Tryz.func93 (by kernel_rfl) rfl
  lt := by
    rintro G F V ⟨Fc, Ft, told, hG, hm, hB, rfl⟩ k (hk | hk)
    · exact hG.mc.lt k hk
    · exact hT.lt _ _ _ hG.ti k hk
  still := by
    rintro G F V V' H ⟨Fc, Ft, told, hG, hm, hB, rfl⟩ hf h1 h2
    exact ⟨Fc, Ft, told, hG.kept hT hf h2 (fun k hk => h1 k (.inl hk)) fun k hk => h1 k (.inr hk), hm, hB.far' hf (h2 _ hgx), rfl⟩
  row := by
    rintro G F V ⟨Fc, Ft, told, hG, hm, hB, rfl⟩ x hx
    refine (qrow_any hG.mb hG.kt x hx).mono ?_
    rintro e w' ⟨v, rfl, h1, h2⟩
    exact ⟨v, _, rfl, h1, h2⟩
  go := by
    intro G F V h x r hx hr
    have GN := AI.gain hT hs hjs hw hgx h r hr
    obtain ⟨Fc, Ft, told, hG, hm, hB, rfl⟩ := h
    have c0 : V.cell? ⟨hg, 0, none⟩ = some (.func (.func 92) #[] #[.pointer (some ⟨hk, 0, none⟩), .pointer (some ⟨hj, 0, none⟩), .pointer (some ⟨hb, 0, none⟩), .pointer (some ⟨ht, 0, none⟩)]) := hB.cell 0
    have ent : ∀ args w, (callFunc 92 args).run Tryz.prog w = .ok (.enter 92 args) w := enters_of Tryz.func92 (by kernel_rfl) rfl
    obtain ⟨b, hb⟩ : ∃ b, (!(C r j || G r)) = b := ⟨_, rfl⟩
    rw [hb] at GN
    rw [hb]
    clear hG hm hB hT hw hgx hb
    go_enter Tryz.func93, Tryz.ntmps93
    go_wp2_with fail
    refine GN.mono ?_
    rintro e w' ⟨rfl, F', hA, hv⟩
    have hA' := Lib.hid hA
    have hv' := Lib.hid hv
    clear GN hA hv
    go_wp2_with fail
    go_ret
    exact ⟨rfl, F', hA'.out, hv'.out⟩
end
theorem rf_cells {W w1 : World} (hb : Far (fun _ => False) W w1) : (∀ b o, b < W.heap.size → w1.cell? ⟨b, o, none⟩ = W.cell? ⟨b, o, none⟩) ∧ (∀ b o, b < W.heap.size → w1.frozen? ⟨b, o, none⟩ = W.frozen? ⟨b, o, none⟩) :=
  ⟨fun b o h => hb.cell (p := ⟨b, o, none⟩) h, fun b o h => (hb.below (Nat.le_refl _) fun _ _ h => h).frozen (p := ⟨b, o, none⟩) h⟩
theorem rf_new {W w2 : World} {o : Obj} (h : Far (fun _ => False) (W.alloc o).drew w2) : W.heap.size < w2.heap.size := by have := h.size; simp [World.drew] at this; omega
theorem rf_new1 {W w2 : World} {o : Obj} (h : Far (fun _ => False) (W.alloc o) w2) : W.heap.size < w2.heap.size := by have := h.size; simp at this; omega
theorem rf_ne {h k b : Nat} {W w1 : World} (hl : h < W.heap.size ∧ k < W.heap.size ∧ b < W.heap.size) (hb : Far (fun _ => False) W w1) : h ≠ w1.heap.size ∧ k ≠ w1.heap.size ∧ b ≠ w1.heap.size ∧ w1.heap.size ≠ h ∧ w1.heap.size ≠ k ∧ w1.heap.size ≠ b := by have := hb.size; omega
/-- The blocks of a keeper and of what is told of to. -/
def KT2 (B : Nat) (Fs Fb Fc Ft : Nat → Prop) (k : Nat) : Prop := KF B Fs Fb Fc k ∨ Ft k
theorem far_boxes {w W0 : World} {h a b c : Nat} {o1 o2 o3 : Array Value} {t1 t2 t3 : TypeId} (hW : W0 = ((w.alloc (.cells o1 t1)).alloc (.cells o2 t2)).alloc (.cells o3 t3)) (ha : a = w.heap.size) (hb : b = a + 1) (hc : c = b + 1) :
    Far (fun _ => False) w W0 ∧ Bk W0 a t1 o1 ∧ Bk W0 b t2 o2 ∧ Bk W0 c t3 o3 := by
  subst hW
  exact ⟨(((Far.refl _ w).alloc _).alloc _).alloc _, ((Bk.new ha).alloc _).alloc _, (Bk.new (by rw [hb, ha]; simp)).alloc _, Bk.new (by rw [hc, hb, ha]; simp)⟩
section
set_option maxHeartbeats 16000000
set_option maxRecDepth 100000
theorem kadd_any {w : World} {Fs Fc Ft : Nat → Prop} (hK : Kp w B ps pb pc Fs Fb Fc s M C) (hTe : Tel s tf tl TI) (hti : TI [] Ft w) (hT : Tab w) (hd : ∀ k, KF B Fs Fb Fc k → ¬ Ft k) (htab : ∀ k, KT2 B Fs Fb Fc Ft k → k ≠ 0) (hi : i < s) (hj : j < s) :
    Calls Tryz.prog 61 #[.pointer (some ⟨B, 0, none⟩), .int .i64 (i : Nat), .int .i64 (j : Nat), .func (.func tf) #[] tl] w fun e w' => e = .returned (.tuple #[]) ∧ ∃ Fs' Fb' Fc' Ft' C' told, Kp w' B ps pb pc Fs' Fb' Fc' s (putM M i j) C' ∧ TI told Ft' w' ∧ TM C C' told ∧ (∀ k, KF B Fs' Fb' Fc' k → ¬ Ft' k) ∧ Mv w w' (KT2 B Fs Fb Fc Ft) (KT2 B Fs' Fb' Fc' Ft') := by
  obtain ⟨h4, hh4⟩ : ∃ h, h = w.heap.size := ⟨_, rfl⟩
  obtain ⟨h6, hh6⟩ : ∃ h, h = h4 + 1 := ⟨_, rfl⟩
  obtain ⟨h7, hh7⟩ : ∃ h, h = h6 + 1 := ⟨_, rfl⟩
  obtain ⟨W0, hW0⟩ : ∃ V, V = ((w.alloc (.cells #[.pointer (some ⟨B, 0, none⟩)] 42)).alloc (.cells #[.int .i64 (j : Nat)] 3)).alloc (.cells #[.func (.func tf) #[] tl] 114) := ⟨_, rfl⟩
  obtain ⟨hf0, b4, b6, b7⟩ := far_boxes (h := 0) hW0 hh4 hh6 hh7
  have hs2 := hK.st.sides.2
  have SE := Lib.hid (fun (V : World) (hf : Far (fun _ => False) W0 V) => qset_yes (hK.st.still (hf0.then hf)) i j hi hj)
  have c4 : W0.cell? ⟨h4, 0, none⟩ = some (.pointer (some ⟨B, 0, none⟩)) := b4.cell 0
  have c6 : W0.cell? ⟨h6, 0, none⟩ = some (.int .i64 (j : Nat)) := b6.cell 0
  have cB : W0.cell? ⟨B, 0, none⟩ = some (.pointer (some ⟨ps, 0, none⟩)) := (hK.still hf0).box.cell 0
  have hBl := hK.box.lt
  have hFtl := Lib.hid (hTe.lt _ _ _ hti)
  have HC := Lib.hid (show ∀ V, Far (fun k => Fs k ∨ Fb k) W0 V → (V.cell? ⟨h4, 0, none⟩ = some (.pointer (some ⟨B, 0, none⟩)) ∧ V.cell? ⟨h6, 0, none⟩ = some (.int .i64 (j : Nat)) ∧ V.cell? ⟨B, 0, none⟩ = some (.pointer (some ⟨ps, 0, none⟩)) ∧ V.cell? ⟨B, 1, none⟩ = some (.pointer (some ⟨pb, 0, none⟩)) ∧ V.cell? ⟨B, 2, none⟩ = some (.pointer (some ⟨pc, 0, none⟩))) from fun V hf => by
    have hb1 := hK.b1
    have f4 : ¬ (Fs h4 ∨ Fb h4) := fun h => h.elim (fun h => by have := hK.st.lt _ h; omega) fun h => by have := hK.bk.lt _ h; omega
    have f6 : ¬ (Fs h6 ∨ Fb h6) := fun h => h.elim (fun h => by have := hK.st.lt _ h; omega) fun h => by have := hK.bk.lt _ h; omega
    have fB : ¬ (Fs B ∨ Fb B) := fun h => h.elim hb1.1 hb1.2.1
    exact ⟨(b4.far' hf f4).cell 0, (b6.far' hf f6).cell 0, ((hK.still hf0).box.far' hf fB).cell 0, ((hK.still hf0).box.far' hf fB).cell 1, ((hK.still hf0).box.far' hf fB).cell 2⟩)
  have hK' := Lib.hid hK
  have hTe' := Lib.hid hTe
  have hti' := Lib.hid hti
  have hT' := Lib.hid hT
  have hd' := Lib.hid hd
  have htab' := Lib.hid htab
  have hh4' := Lib.hid hh4
  have hh6' := Lib.hid hh6
  have hh7' := Lib.hid hh7
  have hW0' := Lib.hid hW0
  have hf0' := Lib.hid hf0
  have b4' := Lib.hid b4
  have b6' := Lib.hid b6
  have b7' := Lib.hid b7
  clear hK hTe hti hT hd htab hh4 hh6 hh7 hW0 hf0 b4 b6 b7
  go_enter Tryz.func61, Tryz.ntmps61
  go_upto_region 1 with fail
  rw [← hh4'.out, ← hh6'.out, ← hh7'.out, ← hW0'.out]
  go_region_held3 (fun w' => w'.cell? ⟨h4, 0, none⟩ = some (.pointer (some ⟨B, 0, none⟩)) ∧ w'.cell? ⟨h6, 0, none⟩ = some (.int .i64 (j : Nat)) ∧ w'.cell? ⟨B, 0, none⟩ = some (.pointer (some ⟨ps, 0, none⟩))) (go_keep)
    (first
      | (go_at_call 48; refine (SE.out _ (Far.refl _ W0).drew).mono ?_; rintro e w1 ⟨rfl, Fs1, hX1, hv1⟩; obtain ⟨c4, c6, cB, cB1, cB2⟩ := HC.out w1 (((Far.refl _ W0).drew).trans (hv1.far.mono fun k _ h => .inl h) fun _ _ h => h); have hX1' := Lib.hid hX1; have hv1' := Lib.hid hv1; clear hX1 hv1))
  have BE := Lib.hid (fun (V : World) (hf : Far (fun _ => False) w1 V) => qset_yes ((hK'.out.bk.still hf0'.out).kept ((((Far.refl (fun _ => False) W0).drew).mono (G := Fs) fun _ _ h => h.elim).trans (hv1'.out.far.trans (G := fun _ => False) hf fun _ _ h => h.elim) fun _ _ h => h) fun k hk e => hK'.out.d1 k e hk) j i hj hi)
  clear SE
  go_wp2_with fail
  go_region_held3 (fun w' => w'.cell? ⟨h4, 0, none⟩ = some (.pointer (some ⟨B, 0, none⟩)) ∧ w'.cell? ⟨h6, 0, none⟩ = some (.int .i64 (j : Nat)) ∧ w'.cell? ⟨B, 1, none⟩ = some (.pointer (some ⟨pb, 0, none⟩))) (go_keep)
    (first
      | (go_at_call 48; refine (BE.out _ (Far.refl _ w1).drew).mono ?_; rintro e w2 ⟨rfl, Fb2, hX2, hv2⟩; have hf2 : Far (fun k => Fs k ∨ Fb k) W0 w2 := ((((Far.refl (fun k => Fs k ∨ Fb k) W0).drew).trans (hv1'.out.far.mono (G := fun k => Fs k ∨ Fb k) fun k _ h => .inl h) fun _ _ h => h).drew).trans (hv2.far.mono (G := fun k => Fs k ∨ Fb k) fun k _ h => .inr h) fun _ _ h => h; obtain ⟨c4, c6, cB, cB1, cB2⟩ := HC.out w2 hf2; have hX2' := Lib.hid hX2; have hv2' := Lib.hid hv2; have hf2' := Lib.hid hf2; clear hX2 hv2 hf2))
  have hw02 : Far (fun k => Fs k ∨ Fb k) w w2 := (hf0'.out.mono (G := fun k => Fs k ∨ Fb k) fun _ _ h => h.elim).trans hf2'.out fun _ _ h => h
  have hx1 : Mx w2 ps Fs1 s (putM M i j) := hX1'.out.kept ((((Far.refl (fun _ => False) w1).drew).mono (G := Fb) fun _ _ h => h.elim).trans hv2'.out.far fun _ _ h => h) fun k hk e => (hv1'.out.more k hk).elim (fun h => hK'.out.d1 k h e) fun h => by
    have h1 := hK'.out.bk.lt k e
    have h2 := hf0'.out.size
    have h3 : W0.heap.size ≤ k := h
    omega
  have hx2 : Mx w2 pb Fb2 s (tnM (putM M i j)) := hX2'.out.congr fun r c => by
    unfold tnM putM
    rw [Bool.and_comm]
  have hx3 : Mx w2 pc Fc s C := hK'.out.cl.kept hw02 fun k hk e => e.elim (fun h => hK'.out.d2 k h hk) fun h => hK'.out.d3 k h hk
  have hbx : Bk w2 B 90 #[.pointer (some ⟨ps, 0, none⟩), .pointer (some ⟨pb, 0, none⟩), .pointer (some ⟨pc, 0, none⟩)] := hK'.out.box.far' hw02 fun h => h.elim hK'.out.b1.1 hK'.out.b1.2.1
  have htb2 : Tab w2 := tab_far hT'.out hw02 fun h => htab'.out _ (.inl (h.elim (fun h => .inr (.inl h)) fun h => .inr (.inr (.inl h)))) rfl
  have hti2 : TI [] Ft w2 := hTe'.out.still _ _ _ _ _ hti'.out hw02 fun k hk e => hd'.out k (e.elim (fun h => .inr (.inl h)) fun h => .inr (.inr (.inl h))) hk
  have n4 : ¬ (Fs h4 ∨ Fb h4) := fun h => h.elim (fun h => by have := hK'.out.st.lt _ h; have := hh4'.out; omega) fun h => by have := hK'.out.bk.lt _ h; have := hh4'.out; omega
  have n6 : ¬ (Fs h6 ∨ Fb h6) := fun h => h.elim (fun h => by have := hK'.out.st.lt _ h; have := hh4'.out; have := hh6'.out; omega) fun h => by have := hK'.out.bk.lt _ h; have := hh4'.out; have := hh6'.out; omega
  have n7 : ¬ (Fs h7 ∨ Fb h7) := fun h => h.elim (fun h => by have := hK'.out.st.lt _ h; have := hh4'.out; have := hh6'.out; have := hh7'.out; omega) fun h => by have := hK'.out.bk.lt _ h; have := hh4'.out; have := hh6'.out; have := hh7'.out; omega
  have b42 := Lib.hid (b4'.out.far' hf2'.out n4)
  have b62 := Lib.hid (b6'.out.far' hf2'.out n6)
  have b72 := Lib.hid (b7'.out.far' hf2'.out n7)
  have hF1 : ∀ k, Fs1 k → Fs k ∨ w.heap.size ≤ k := fun k hk => (hv1'.out.more k hk).imp id fun h => Nat.le_trans hf0'.out.size h
  have hF2 : ∀ k, Fb2 k → Fb k ∨ w1.heap.size ≤ k := fun k hk => hv2'.out.more k hk
  have hz1 : w.heap.size ≤ w1.heap.size := Nat.le_trans hf0'.out.size hv1'.out.far.size
  have hFs1 : ∀ k, Fs1 k → k < w1.heap.size := hX1'.out.lt
  have hd1 : ∀ k, Fs1 k → ¬ Fb2 k := fun k h1 h2 => (hF2 k h2).elim (fun h => (hF1 k h1).elim (fun h1 => hK'.out.d1 k h1 h) fun h1 => by have := hK'.out.bk.lt k h; omega) fun h => by have := hFs1 k h1; omega
  have hd2 : ∀ k, Fs1 k → ¬ Fc k := fun k h1 h2 => (hF1 k h1).elim (fun h1 => hK'.out.d2 k h1 h2) fun h1 => by have := hK'.out.cl.lt k h2; omega
  have hd3 : ∀ k, Fb2 k → ¬ Fc k := fun k h1 h2 => (hF2 k h1).elim (fun h1 => hK'.out.d3 k h1 h2) fun h1 => by have := hK'.out.cl.lt k h2; omega
  have hclo := hK'.out.clo
  have hwC := hK'.out.clo.within hK'.out.st.within
  have RE := kreach_box hbx hx3 i j hi hj
  have hw02' := Lib.hid hw02
  have hx1' := Lib.hid hx1
  have hx2' := Lib.hid hx2
  have hx3' := Lib.hid hx3
  have hbx' := Lib.hid hbx
  have htb2' := Lib.hid htb2
  have hti2' := Lib.hid hti2
  have hF1' := Lib.hid hF1
  have hF2' := Lib.hid (show ∀ k, Fb2 k → Fb k ∨ w.heap.size ≤ k from fun k hk => (hF2 k hk).imp id fun h => Nat.le_trans hz1 h)
  have hd1' := Lib.hid hd1
  have hd2' := Lib.hid hd2
  have hd3' := Lib.hid hd3
  have hclo' := Lib.hid hclo
  have hwC' := Lib.hid hwC
  have hn467 := Lib.hid (show w.heap.size ≤ h4 ∧ h4 < h6 ∧ h6 < h7 ∧ h7 < w2.heap.size from ⟨by have := hh4'.out; omega, by have := hh6'.out; omega, by have := hh7'.out; omega, b72.out.lt⟩)
  clear hw02 hx1 hx2 hx3 hbx htb2 hti2 n4 n6 n7 hF1 hF2 hFs1 hd1 hd2 hd3 hclo hwC hz1 hX1' hX2' hv1' hv2' BE HC hf2' b4' b6' b7' hW0' hf0' hti' hT' hh4' hh6' hh7'
  go_wp2_with fail
  refine RE.mono ?_
  rintro e w3 ⟨rfl, hf3⟩
  have hf3' := Lib.hid hf3
  have hmC : ∀ r c, putM M i j r c = true ↔ M r c = true ∨ (r = i ∧ c = j) := fun r c => by
    unfold putM
    simp only [Bool.or_eq_true, Bool.and_eq_true, decide_eq_true_eq]
  have hmC' := Lib.hid hmC
  have hF3 : ∀ k, KT2 B Fs1 Fb2 Fc Ft k → KT2 B Fs Fb Fc Ft k ∨ w.heap.size ≤ k := fun k hk => by
    rcases hk with (h | h | h | h) | h
    · exact .inl (.inl (.inl h))
    · exact (hF1'.out k h).imp (fun h => .inl (.inr (.inl h))) id
    · exact (hF2'.out k h).imp (fun h => .inl (.inr (.inr (.inl h)))) id
    · exact .inl (.inl (.inr (.inr (.inr h))))
    · exact .inl (.inr h)
  have hF3' := Lib.hid hF3
  have hdt : ∀ k, KF B Fs1 Fb2 Fc k → ¬ Ft k := fun k hk ht => by
    have hl := hFtl.out k ht
    rcases hk with h | h | h | h
    · exact hd'.out k (.inl h) ht
    · exact (hF1'.out k h).elim (fun h => hd'.out k (.inr (.inl h)) ht) fun h => by omega
    · exact (hF2'.out k h).elim (fun h => hd'.out k (.inr (.inr (.inl h))) ht) fun h => by omega
    · exact hd'.out k (.inr (.inr (.inr h))) ht
  have hdt' := Lib.hid hdt
  clear RE hf3 hmC hF3 hdt
  cases hij : C i j with
  | true =>
    have hij' := Lib.hid hij
    clear hij
    go_wp2_with fail
    refine bodyPost_ret (results_none rfl _ _ _) rfl ?_
    refine ⟨rfl, Fs1, Fb2, Fc, Ft, C, [], ⟨hbx'.out.far' hf3'.out id, hx1'.out.still hf3'.out, hx2'.out.still hf3'.out, hx3'.out.still hf3'.out, (moreC_clo hclo'.out hmC'.out).congr (fun _ _ => rfl) fun r c => (moreC_same hclo'.out hij'.out r c).symm, hd1'.out, hd2'.out, hd3'.out⟩, hTe'.out.still _ _ _ _ _ hti2'.out hf3'.out (fun _ _ h => h), TM.start C, hdt'.out, ⟨(hw02'.out.mono fun k _ h => .inl (h.elim (fun h => .inr (.inl h)) fun h => .inr (.inr (.inl h)))).trans hf3'.out fun _ _ h => h.elim, hF3'.out⟩⟩
  | false =>
    have hij' := Lib.hid hij
    clear hij
    have RO := Lib.hid (fun (V : World) (hf : Far (fun _ => False) w3 V) => qrow_any ((hx3'.out.still hf3'.out).still hf) ((htb2'.out.still hf3'.out).still hf) j hj)
    have c4 : w3.cell? ⟨h4, 0, none⟩ = some (.pointer (some ⟨B, 0, none⟩)) := (b42.out.far' hf3'.out id).cell 0
    have c6 : w3.cell? ⟨h6, 0, none⟩ = some (.int .i64 (j : Nat)) := (b62.out.far' hf3'.out id).cell 0
    have cB2 : w3.cell? ⟨B, 2, none⟩ = some (.pointer (some ⟨pc, 0, none⟩)) := (hbx'.out.far' hf3'.out id).cell 2
    have HC3 := Lib.hid (show ∀ V, Far (fun _ => False) w3 V → (V.cell? ⟨h4, 0, none⟩ = some (.pointer (some ⟨B, 0, none⟩)) ∧ V.cell? ⟨h6, 0, none⟩ = some (.int .i64 (j : Nat)) ∧ V.cell? ⟨B, 2, none⟩ = some (.pointer (some ⟨pc, 0, none⟩))) from fun V hf => ⟨(b42.out.far' (hf3'.out.then hf) id).cell 0, (b62.out.far' (hf3'.out.then hf) id).cell 0, (hbx'.out.far' (hf3'.out.then hf) id).cell 2⟩)
    have hl3 : h4 < w3.heap.size ∧ h6 < w3.heap.size ∧ B < w3.heap.size := by have := hn467.out; have := hf3'.out.size; omega
    have ne4 : h4 ≠ w3.heap.size := by have := hn467.out; have := hf3'.out.size; omega
    have ne6 : h6 ≠ w3.heap.size := by have := hn467.out; have := hf3'.out.size; omega
    have neB : B ≠ w3.heap.size := by have := hn467.out; have := hf3'.out.size; omega
    have ne4' : w3.heap.size ≠ h4 := ne4.symm
    have ne6' : w3.heap.size ≠ h6 := ne6.symm
    have neB' : w3.heap.size ≠ B := neB.symm
    go_upto_region 4 with fail
    go_cut [8] (fun v wc => ∃ (h8 : Nat) (val : Value), v = .pointer (some ⟨h8, 0, none⟩) ∧ Bk wc h8 30 #[val] ∧ w3.heap.size ≤ h8 ∧ wc.ownsRow w3.heap.size 3 1 val (colsM C s j).length (ncells (colsM C s j)) ∧ Far (fun _ => False) w3 wc)
    case first =>
      go_region_held3 (fun w' => w'.cell? ⟨h4, 0, none⟩ = some (.pointer (some ⟨B, 0, none⟩)) ∧ w'.cell? ⟨h6, 0, none⟩ = some (.int .i64 (j : Nat)) ∧ w'.cell? ⟨B, 2, none⟩ = some (.pointer (some ⟨pc, 0, none⟩))) (go_keep)
        (first
          | (go_at_call 23; refine (RO.out _ (by first | exact (Far.refl _ w3).drew | exact ((Far.refl _ w3).drew.alloc _).drew | exact ((Far.refl _ w3).alloc _).drew | exact ((Far.refl _ w3).drew.alloc _))).mono ?_; rintro e w5 ⟨v5, rfl, hO5, hf5⟩; obtain ⟨ao5, cp5, rfl⟩ := q_form hO5; have hf5' := Lib.hid hf5; have hO5' := Lib.hid hO5; obtain ⟨c4, c6, cB2⟩ := HC3.out w5 (Far.then (by first | exact (Far.refl _ w3).drew | exact ((Far.refl _ w3).drew.alloc _).drew | exact ((Far.refl _ w3).alloc _).drew | exact ((Far.refl _ w3).drew.alloc _)) hf5); obtain ⟨hc5, hz5⟩ := rf_cells hf5; (first | have ns5 := rf_new hf5 | have ns5 := rf_new1 hf5 | skip); have hs5 := hf5.size; obtain ⟨n51, n52, n53, n54, n55, n56⟩ := rf_ne hl3 (Far.then (by first | exact (Far.refl _ w3).drew | exact ((Far.refl _ w3).drew.alloc _).drew | exact ((Far.refl _ w3).alloc _).drew | exact ((Far.refl _ w3).drew.alloc _)) hf5); clear hf5 hO5))
      all_goals
        clear hc5 hz5
        go_wp2_with fail
        go_meet
      · exact ⟨_, _, rfl, Bk.new rfl, Nat.le_trans (Nat.le_of_eq rfl) hs5, (own_base (Nat.le_of_eq rfl) hO5'.out).alloc _, ((Far.refl _ w3).drew.then hf5'.out).alloc _⟩
      · have hle : w3.heap.size ≤ (w3.alloc (.cells #[.slice none 0 0] 30)).drew.heap.size := by simp [World.drew]
        have b8 := ((Bk.new rfl : Bk (w3.alloc (.cells #[.slice none 0 0] 30)) w3.heap.size 30 #[.slice none 0 0]).far' (F := fun _ => False) (((Far.refl _ _).drew).then hf5'.out) id).set 0 (.slice ao5 (colsM C s j).length cp5)
        refine ⟨_, _, rfl, b8, Nat.le_refl _, row_same (own_base hle hO5'.out) fun k hk hl => heap_setCell_other _ _ _ _ fun e => ?_, (((Far.refl _ w3).alloc _).drew.then hf5'.out).set _ _ fun h => absurd h (Nat.lt_irrefl _)⟩
        have h1 := (hO5'.out.lt k hk).1
        have e : k = w3.heap.size := e
        have h2 : w3.heap.size + 1 ≤ (w3.alloc (.cells #[.slice none 0 0] 30)).drew.heap.size := by simp [World.drew]
        omega
    case rest =>
      obtain ⟨h8, val, rfl, b8, hle8, hO8, hf8⟩ := hcut
      obtain ⟨vo, vc, rfl⟩ := q_form hO8
      obtain ⟨wd, hwd⟩ : ∃ wd, wd = wc := ⟨_, rfl⟩
      rw [← hwd] at b8 hO8 hf8 ⊢
      clear hwd c4 c6 cB2 ne4 ne6 neB ne4' ne6' neB' RO
      obtain ⟨c4, c6, cB2⟩ := HC3.out wd hf8
      obtain ⟨N8, hN8⟩ : ∃ N, (colsM C s j).length = N := ⟨_, rfl⟩
      have hN81 : N8 ≤ 1024 := by rw [← hN8]; exact Nat.le_trans (colsM_le C s j) hs2
      rw [hN8] at b8 hO8
      have hN8' := Lib.hid hN8
      have c8 : wd.cell? ⟨h8, 0, none⟩ = some (.slice vo N8 vc) := b8.cell 0
      obtain ⟨i0, hi0, hz0, hz1, hz2⟩ := info_parts int_info
      have A1 := Lib.hid (hO8.alloc (.cells #[.int .i64 (j : Nat)] 3))
      have A2 := Lib.hid (World.news_of_block (w := wd.alloc (.cells #[.int .i64 (j : Nat)] 3)) (cs := #[.int .i64 (j : Nat)]) (t := 3) (fr := (0, 0)) (heap_alloc_new wd _))
      have A3 : ∀ u ∈ (#[.int .i64 (j : Nat)] : Array Value).toList, u.oneCell' = true := fun u hu => by simp at hu; subst hu; rfl
      have A4 : N8 + 1 ≤ maxLen := by unfold maxLen; omega
      have A5 : (N8 + 1) * 8 ≤ 140737488355328 := by omega
      have A7 : w3.heap.size ≤ (wd.alloc (.cells #[.int .i64 (j : Nat)] 3)).heap.size := by have := hf8.size; simp; omega
      have hn8 : (Value.slice vo N8 vc).ownBlock ≠ some h8 := fun e => by
        obtain ⟨_, _, cs, hb⟩ := own_type hO8 e
        have := bk_type hb b8
        revert this
        decide
      have b8' := Lib.hid b8
      have hO8' := Lib.hid hO8
      have hf8' := Lib.hid hf8
      clear b8 hO8 hf8 hN8
      go_upto_region 6 with (at_builtin; refine wpList_append_lies _ rfl _ _ 30 rfl w3.heap.size 3 i0 _ 1 8 Tryz.underlying30 hi0 hz0 hz1 hz2 rfl (by decide) (.slice vo N8 vc) N8 _ rfl A1.out ⟨wd.heap.size, 0, none⟩ 1 1 (#[.int .i64 (j : Nat)] : Array Value).toList rfl rfl A2.out A3 (by decide) A4 A5 A7 _ rfl ?_; intro fg fc w4 ho4 hg4 hat4 hl4; have b84 : Bk w4 h8 30 #[.slice vo N8 vc] := (b8'.out.alloc _).grownR hg4 (fun e => hn8 e.symm); have f84 := b84.free 0; have c84 : w4.cell? ⟨h8, 0, none⟩ = some (.slice vo N8 vc) := b84.cell 0; have b84' := Lib.hid b84; have ho4' := Lib.hid ho4; have hg4' := Lib.hid hg4; have hat4' := Lib.hid hat4; clear ho4 hg4 hat4 b84)
      have hgt : fg < w4.heap.size := (ho4'.out.lt fg rfl).2
      have hg3 : w3.heap.size ≤ fg := (ho4'.out.lt fg rfl).1
      have hf4 : Far (fun _ => False) w3 w4 := (hf8'.out.alloc _).grown hg4'.out fun k hk e => by have := (hO8'.out.lt k e).1; omega
      have ho4 : w4.ownsRow w3.heap.size 3 1 (.slice (some ⟨fg, 0, none⟩) (N8 + 1) fc) (N8 + 1) (ncells (colsM C s j ++ [j])) := by have := ho4'.out; rwa [show ncells (colsM C s j) ++ (#[.int .i64 (j : Nat)] : Array Value).toList = ncells (colsM C s j ++ [j]) by rw [ncells_snoc]] at this
      have hf8n : fg ≠ h8 := fun e => by
        subst e
        obtain ⟨_, _, cs, hb⟩ := own_type ho4 rfl
        have := bk_type hb b84'.out
        revert this
        decide
      obtain ⟨W9, hW9⟩ : ∃ V, V = w4.setCell ⟨h8, 0, none⟩ (.slice (some ⟨fg, 0, none⟩) (N8 + 1) fc) := ⟨_, rfl⟩
      rw [← hW9]
      have b89 : Bk W9 h8 30 #[.slice (some ⟨fg, 0, none⟩) (N8 + 1) fc] := hW9 ▸ b84'.out.set 0 _
      have hf9 : Far (fun _ => False) w3 W9 := hW9 ▸ hf4.set _ _ fun h => absurd h (Nat.not_lt.2 hle8)
      have ho9 : W9.ownsRow w3.heap.size 3 1 (.slice (some ⟨fg, 0, none⟩) (N8 + 1) fc) (N8 + 1) (ncells (colsM C s j ++ [j])) := hW9 ▸ row_same ho4 fun k hk hl => heap_setCell_other _ _ _ _ fun e => by
        cases hk
        exact hf8n e
      obtain ⟨h10, hh10⟩ : ∃ h, h = W9.heap.size := ⟨_, rfl⟩
      obtain ⟨W10, hW10⟩ : ∃ V, V = W9.alloc (.cells #[.func (.func 92) #[] #[.pointer (some ⟨h4, 0, none⟩), .pointer (some ⟨h6, 0, none⟩), .pointer (some ⟨h8, 0, none⟩), .pointer (some ⟨h7, 0, none⟩)]] 106) := ⟨_, rfl⟩
      have hf10 : Far (fun _ => False) w3 W10 := hW10 ▸ hf9.alloc _
      have b10 : Bk W10 h10 106 #[.func (.func 92) #[] #[.pointer (some ⟨h4, 0, none⟩), .pointer (some ⟨h6, 0, none⟩), .pointer (some ⟨h8, 0, none⟩), .pointer (some ⟨h7, 0, none⟩)]] := hW10 ▸ Bk.new hh10
      have b810 : Bk W10 h8 30 #[.slice (some ⟨fg, 0, none⟩) (N8 + 1) fc] := hW10 ▸ b89.alloc _
      have ho10 : W10.ownsRow w3.heap.size 3 1 (.slice (some ⟨fg, 0, none⟩) (N8 + 1) fc) (N8 + 1) (ncells (colsM C s j ++ [j])) := hW10 ▸ ho9.alloc _
      have hf210 : Far (fun _ => False) w2 W10 := hf3'.out.then hf10
      have hlX : (colsM C s j ++ [j]).length = N8 + 1 := by rw [List.length_append, hN8'.out]; rfl
      have hz10 : w3.heap.size ≤ W10.heap.size := hf10.size
      have hz23 := hf3'.out.size
      have hq := hn467.out
      have hFcl := hK'.out.cl.lt
      obtain ⟨FX, hFX⟩ : ∃ FX : Nat → Prop, FX = fun k => k = B ∨ k = h4 ∨ k = h6 ∨ k = h8 ∨ k = h7 ∨ k = fg ∨ k = 0 ∨ Fb2 k ∨ k = h10 ∨ Fs1 k := ⟨_, rfl⟩
      have fxc : ∀ k, FX k → ¬ Fc k ∧ ¬ Ft k := fun k hk => by
        rw [hFX] at hk
        rcases hk with rfl | rfl | rfl | rfl | rfl | rfl | rfl | h | rfl | h
        · exact ⟨hK'.out.b1.2.2, hd'.out _ (.inl rfl)⟩
        · exact ⟨fun h => by have := hFcl _ h; omega, fun h => by have := hFtl.out _ h; omega⟩
        · exact ⟨fun h => by have := hFcl _ h; omega, fun h => by have := hFtl.out _ h; omega⟩
        · exact ⟨fun h => by have := hFcl _ h; omega, fun h => by have := hFtl.out _ h; omega⟩
        · exact ⟨fun h => by have := hFcl _ h; omega, fun h => by have := hFtl.out _ h; omega⟩
        · exact ⟨fun h => by have := hFcl _ h; omega, fun h => by have := hFtl.out _ h; omega⟩
        · exact ⟨fun h => htab'.out _ (.inl (.inr (.inr (.inr h)))) rfl, fun h => htab'.out _ (.inr h) rfl⟩
        · exact ⟨hd3'.out k h, hdt'.out k (.inr (.inr (.inl h)))⟩
        · exact ⟨fun h => by have := hFcl _ h; have := hf9.size; omega, fun h => by have := hFtl.out _ h; have := hf9.size; omega⟩
        · exact ⟨hd2'.out k h, hdt'.out k (.inr (.inl h))⟩
      have fxl : ∀ k, FX k → k < W10.heap.size := fun k hk => by
        rw [hFX] at hk
        have hz4 : w4.heap.size ≤ W10.heap.size := by rw [hW10, hW9]; simp
        rcases hk with rfl | rfl | rfl | rfl | rfl | rfl | rfl | h | rfl | h
        · omega
        · omega
        · omega
        · exact b810.lt
        · omega
        · omega
        · have := htb2'.out.lt; omega
        · have := hx2'.out.lt k h; omega
        · exact b10.lt
        · have := hx1'.out.lt k h; omega
      have hgx : FX h10 := by rw [hFX]; exact .inr (.inr (.inr (.inr (.inr (.inr (.inr (.inr (.inl rfl))))))))
      have hsx : ∀ k, Fs1 k → FX k := fun k h => by rw [hFX]; exact .inr (.inr (.inr (.inr (.inr (.inr (.inr (.inr (.inr h))))))))
      have hbX : ∀ k, Fb2 k → FX k := fun k h => by rw [hFX]; exact .inr (.inr (.inr (.inr (.inr (.inr (.inr (.inl h)))))))
      have hBX : FX B := by rw [hFX]; exact .inl rfl
      have fxs : FX B ∧ FX h4 ∧ FX h6 ∧ FX h8 ∧ FX h7 ∧ FX fg ∧ FX 0 ∧ ∀ k, Fb2 k → FX k := by
        refine ⟨hBX, ?_, ?_, ?_, ?_, ?_, ?_, hbX⟩ <;> rw [hFX] <;> simp
      have hAI : AI FX B ps pb pc h4 h6 h8 h7 h10 w3.heap.size fg fc s i j Fb2 tf tl TI M C (fun _ => false) (CF Fc Ft) W10 :=
        ⟨Fc, Ft, [], ⟨hbx'.out.far' hf210 id, b42.out.far' hf210 id, b62.out.far' hf210 id, by rw [hlX]; exact b810, b72.out.far' hf210 id, by rw [hlX]; exact ho10, tab_far htb2'.out hf210 id, hx2'.out.still hf210, (hx3'.out.still hf210).congr fun r c => gainC_zero C j r c, hTe'.out.still _ _ _ _ _ hti2'.out hf210 fun _ _ h => h, fxs, fxl, fxc, fun k hk => hd'.out k (.inr (.inr (.inr hk)))⟩, (TM.start C).congr fun r c => gainC_zero C j r c, b10, rfl⟩
      have hst10 := hx1'.out.still hf210
      have hfw10 : Far (fun k => Fs k ∨ Fb k) w W10 := hw02'.out.trans hf210 fun _ _ h => h.elim
      have GN := AI.gain hTe'.out hs2 hj hwC'.out hgx hAI i hi
      have c10 : W10.cell? ⟨h10, 0, none⟩ = some (.func (.func 92) #[] #[.pointer (some ⟨h4, 0, none⟩), .pointer (some ⟨h6, 0, none⟩), .pointer (some ⟨h8, 0, none⟩), .pointer (some ⟨h7, 0, none⟩)]) := b10.cell 0
      have ent : ∀ args w, (callFunc 92 args).run Tryz.prog w = .ok (.enter 92 args) w := enters_of Tryz.func92 (by kernel_rfl) rfl
      have hAI' := Lib.hid hAI
      have hst10' := Lib.hid hst10
      have hfw10' := Lib.hid hfw10
      have fxc' := Lib.hid fxc
      have fxl' := Lib.hid fxl
      have hgx' := Lib.hid hgx
      have hsx' := Lib.hid hsx
      have hbX' := Lib.hid hbX
      have hBX' := Lib.hid hBX
      have hW10' := Lib.hid hW10
      have hh10' := Lib.hid hh10
      have hzw := Lib.hid (show w.heap.size ≤ W10.heap.size from by omega)
      obtain ⟨gb, hgb⟩ : ∃ b, (!(C i j || (fun _ : Nat => false) i)) = b := ⟨_, rfl⟩
      rw [hgb] at GN
      clear hgb hAI hst10 hfw10 fxc fxl hgx hsx hbX hBX fxs hW10 hh10 hFX hW9 b89 hf9 ho9 hf10 b10 b810 ho10 hf210 hlX hz10 hz23 hq hFcl hf4 ho4 hgt hg3 hf8n c84 f84 c8 A1 A2 A3 A4 A5 A7 hn8 b8' hO8' hf8' hat4' hg4' ho4' b84' c4 c6 cB2 HC3
      go_upto_region 7 with fail
      rw [← hh10'.out, ← hW10'.out]
      go_wp2_with fail
      refine GN.mono ?_
      rintro e w11 ⟨rfl, F11, hA11, hv11⟩
      obtain ⟨Fc11, Ft11, told11, hG11, hm11, hB11, rfl⟩ := hA11
      have hA11' := Lib.hid (show AI FX B ps pb pc h4 h6 h8 h7 h10 w3.heap.size fg fc s i j Fb2 tf tl TI M C (addG (fun x => C x j) (fun _ => false) i) (CF Fc11 Ft11) w11 from ⟨Fc11, Ft11, told11, hG11, hm11, hB11, rfl⟩)
      have hst11 := Lib.hid (hst10'.out.kept hv11.far fun k hk h => h.elim (fxc'.out k (hsx'.out k hk)).1 (fxc'.out k (hsx'.out k hk)).2)
      have hx11 := Lib.hid hG11.x1
      have hv11' := Lib.hid hv11
      have c4 : w11.cell? ⟨h4, 0, none⟩ = some (.pointer (some ⟨B, 0, none⟩)) := hG11.k1.cell 0
      have cB1 : w11.cell? ⟨B, 1, none⟩ = some (.pointer (some ⟨pb, 0, none⟩)) := hG11.kb.cell 1
      have FL := flow_any hs2 (flw_add hTe'.out hs2 hj hwC'.out hgx'.out) hA11'.out (fun k hk => Nat.lt_of_lt_of_le (fxl'.out k hk) hv11.far.size) hi
      clear GN hG11 hm11 hB11 hv11 c10
      go_wp2_with fail
      refine FL.mono ?_
      rintro e w12 ⟨rfl, G, F12, hS, hA12, hv12⟩
      obtain ⟨Fc12, Ft12, told12, hG12, hm12, hB12, rfl⟩ := hA12
      have hS' := Lib.hid hS
      have hG12' := Lib.hid hG12
      have hm12' := Lib.hid hm12
      have hv12' := Lib.hid hv12
      clear FL hS hG12 hm12 hB12 hv12 c4 cB1
      go_wp2_with fail
      go_end0
      have hS := hS'.out
      have hG := hG12'.out
      have hG0 : ∀ y, addG (fun x => C x j) (fun _ => false) i y = true ↔ y = i := fun y => by
        rw [addG_iff]
        exact ⟨fun h => h.elim (fun h => by cases h) fun h => h.1, fun h => .inr ⟨h, h ▸ hij'.out⟩⟩
      have hMt : ∀ x r, r ∈ colsM (tnM (putM M i j)) s x ↔ r < s ∧ putM M i j r x = true := fun x r => mem_colsM
      have hGi : G i = true := hS.old i ((hG0 i).2 rfl)
      have hGr : ∀ r, G r = true → r = i ∨ C r i = true := fun r hr => by
        by_cases e : r = i
        · exact .inl e
        · refine hS.reach (fun x => x = i ∨ C x i = true) (.inl rfl) (fun a b ha hb => ?_) r (.inr (.inr ⟨hr, ?_⟩))
          · rcases (hmC'.out b a).1 ((hMt a b).1 hb).2 with h | ⟨h, _⟩
            · rcases ha with rfl | ha
              · exact .inr (hclo'.out.has h)
              · exact .inr (hclo'.out.on (hclo'.out.has h) ha)
            · exact .inl h
          · cases hq : addG (fun x => C x j) (fun _ => false) i r
            · rfl
            · exact absurd ((hG0 r).1 hq) e
      have hGp : ∀ x, G x = true → ∀ r, M r x = true → C r j = true ∨ G r = true := fun x hx r hr => by
        have hd := hS.done x (by
          by_cases e : x = i
          · exact .inl e
          · refine .inr ⟨hx, ?_⟩
            cases hq : addG (fun x => C x j) (fun _ => false) i x
            · rfl
            · exact absurd ((hG0 x).1 hq) e)
        rcases hd with h | h | h
        · cases h
        · cases h
        · exact h r ((hMt x r).2 ⟨(hwC'.out r x (hclo'.out.has hr)).1, (hmC'.out r x).2 (.inl hr)⟩)
      have hmore : ∀ k, CF Fc12 Ft12 k → CF Fc Ft k ∨ w.heap.size ≤ k := fun k hk => by
        rcases hv12'.out.more k hk with h | h
        · rcases hv11'.out.more k h with h | h
          · exact .inl h
          · exact .inr (Nat.le_trans hzw.out h)
        · exact .inr (Nat.le_trans hzw.out (Nat.le_trans hv11'.out.far.size h))
      refine ⟨rfl, Fs1, Fb2, Fc12, Ft12, gainC C G j, told12, ⟨hG.kb, hst11.out.kept hv12'.out.far (fun k hk h => h.elim (hx11.out k (hsx'.out k hk)).1 (hx11.out k (hsx'.out k hk)).2), hG.mb, hG.mc, (moreC_clo hclo'.out hmC'.out).congr (fun _ _ => rfl) (gainC_all hclo'.out hGi hGr hGp), hd1'.out, fun k hk => (hG.x1 k (hsx'.out k hk)).1, fun k hk => (hG.x1 k (hbX'.out k hk)).1⟩, hG.ti, hm12'.out, fun k hk => ?_, ⟨?_, fun k hk => ?_⟩⟩
      · rcases hk with rfl | h | h | h
        · exact (hG.x1 _ hBX'.out).2
        · exact (hG.x1 k (hsx'.out k h)).2
        · exact (hG.x1 k (hbX'.out k h)).2
        · exact hG.x2 k h
      · have h1 : Far (KT2 B Fs Fb Fc Ft) w W10 := hfw10'.out.mono fun k _ h => .inl (h.elim (fun h => .inr (.inl h)) fun h => .inr (.inr (.inl h)))
        have hct : ∀ k, CF Fc Ft k → KT2 B Fs Fb Fc Ft k := fun k h => h.elim (fun h => .inl (.inr (.inr (.inr h)))) fun h => .inr h
        refine (h1.trans hv11'.out.far fun k _ h => hct k h).trans hv12'.out.far fun k hk h => ?_
        rcases hv11'.out.more k h with h | h
        · exact hct k h
        · have := hzw.out; omega
      · rcases hk with (h | h | h | h) | h
        · exact .inl (.inl (.inl h))
        · exact (hF1'.out k h).imp (fun h => .inl (.inr (.inl h))) id
        · exact (hF2'.out k h).imp (fun h => .inl (.inr (.inr (.inl h)))) id
        · exact (hmore k (.inl h)).imp (fun h => h.elim (fun h => .inl (.inr (.inr (.inr h)))) fun h => .inr h) id
        · exact (hmore k (.inr h)).imp (fun h => h.elim (fun h => .inl (.inr (.inr (.inr h)))) fun h => .inr h) id
end
end
end Go.Proofs.YtjolkhiggcmoiaaGreatDoor
