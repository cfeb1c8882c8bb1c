/-
  QRKeptM: QRJoin, QRJoin2, QClsArg, QRKept.
-/
import Derived.Test.YtjolkhiggcmoiaaDoorQRLeast
import Derived.Test.YtjolkhiggcmoiaaDoorQNest
import Derived.Laws.EntriesVeiled
import Derived.Test.YtjolkhiggcmoiaaDoorQLaws
import Derived.Deep.Slices
import Derived.Deep.Fields
import Derived.ChangeMaps5
/-! ## QRJoin: A keeper's side, its matrices; many steps laid at once. -/
namespace Go.Proofs.YtjolkhiggcmoiaaDoor
open Go.RowKit Go.Shelf
set_option linter.unusedVariables false
set_option linter.unusedSimpArgs false
theorem clo_joinC {M N C D : Nat → Nat → Bool} (h : IsClo M C) (h2 : IsClo (joinM C N) D) : IsClo (joinM M N) D := by
  have j : ∀ (A B : Nat → Nat → Bool) a b, joinM A B a b = true ↔ A a b = true ∨ B a b = true := fun A B a b => by unfold joinM; rw [Bool.or_eq_true]
  refine clo_done (fun a b e => ?_) (fun a b e => ?_) fun i k j a b => h2.on a b
  · rcases (j _ _ _ _).1 e with e | e
    · exact h2.has ((j _ _ _ _).2 (.inl (h.has e)))
    · exact h2.has ((j _ _ _ _).2 (.inr e))
  · refine ((h2 a b).1 e).least (R := fun a b => TC (joinM M N) a b) (fun a b e => ?_) fun a b c h1 h2 => h1.trans h2
    rcases (j _ _ _ _).1 e with e | e
    · exact ((h a b).1 e).mono fun a b e => (j _ _ _ _).2 (.inl e)
    · exact .one ((j _ _ _ _).2 (.inr e))
section
variable {w w' : World} {B ps pb pc s : Nat} {Fs Fb Fc : Nat → Prop} {M C : Nat → Nat → Bool}
set_option maxHeartbeats 8000000
set_option maxRecDepth 100000
theorem knone_same (h : Kp w B ps pb pc Fs Fb Fc s M C) : Calls Tryd.prog 77 #[.pointer (some ⟨B, 0, none⟩)] w fun e w' => e = .returned (.bool false) ∧ w = w' := by
  have c0 : w.cell? ⟨B, 0, none⟩ = some (.pointer (some ⟨ps, 0, none⟩)) := h.box.cell 0
  clear h
  go_enter Tryd.func77, Tryd.ntmps77
  go_wp2_with fail
  go_ret
  exact ⟨rfl, rfl⟩
theorem kside_any (h : Kp w B ps pb pc Fs Fb Fc s M C) : Calls Tryd.prog 78 #[.pointer (some ⟨B, 0, none⟩)] w fun e w' => e = .returned (.int .i64 (s : Nat)) ∧ w = w' := by
  have N := knone_same h
  have c0 : w.cell? ⟨B, 0, none⟩ = some (.pointer (some ⟨ps, 0, none⟩)) := h.box.cell 0
  have SD := h.st.side
  clear h
  go_enter Tryd.func78, Tryd.ntmps78
  go_wp2_with fail
  refine N.mono ?_
  rintro e w1 ⟨rfl, rfl⟩
  go_wp2_with fail
  refine SD.mono ?_
  rintro e w1 ⟨rfl, rfl⟩
  clear N SD
  go_wp2_with fail
  go_ret
  exact ⟨rfl, rfl⟩
theorem kmat_any (h : Kp w B ps pb pc Fs Fb Fc s M C) : Calls Tryd.prog 32 #[.pointer (some ⟨B, 0, none⟩)] w fun e w' => ∃ B', e = .returned (.pointer (some ⟨B', 0, none⟩)) ∧ ∃ F', Mx w' B' F' s C ∧ (∀ k, F' k → w.heap.size ≤ k) ∧ Far (fun _ => False) w w' := by
  have N := knone_same h
  have c2 : w.cell? ⟨B, 2, none⟩ = some (.pointer (some ⟨pc, 0, none⟩)) := h.box.cell 2
  have CP := qcopy_any h.cl
  clear h
  go_enter Tryd.func32, Tryd.ntmps32
  go_wp2_with fail
  refine N.mono ?_
  rintro e w1 ⟨rfl, rfl⟩
  clear N
  go_wp2_with fail
  refine CP.mono ?_
  rintro e w1 ⟨B', rfl, F', hX, hlo, hf⟩
  have hX' := Lib.hid hX
  have hlo' := Lib.hid hlo
  have hf' := Lib.hid hf
  clear CP hX hlo hf
  go_wp2_with fail
  go_ret
  exact ⟨_, rfl, F', hX'.out, hlo'.out, hf'.out⟩
theorem ksteps_any (h : Kp w B ps pb pc Fs Fb Fc s M C) : Calls Tryd.prog 33 #[.pointer (some ⟨B, 0, none⟩)] w fun e w' => ∃ B', e = .returned (.pointer (some ⟨B', 0, none⟩)) ∧ ∃ F', Mx w' B' F' s M ∧ (∀ k, F' k → w.heap.size ≤ k) ∧ Far (fun _ => False) w w' := by
  have N := knone_same h
  have c2 : w.cell? ⟨B, 0, none⟩ = some (.pointer (some ⟨ps, 0, none⟩)) := h.box.cell 0
  have CP := qcopy_any h.st
  clear h
  go_enter Tryd.func33, Tryd.ntmps33
  go_wp2_with fail
  refine N.mono ?_
  rintro e w1 ⟨rfl, rfl⟩
  clear N
  go_wp2_with fail
  refine CP.mono ?_
  rintro e w1 ⟨B', rfl, F', hX, hlo, hf⟩
  have hX' := Lib.hid hX
  have hlo' := Lib.hid hlo
  have hf' := Lib.hid hf
  clear CP hX hlo hf
  go_wp2_with fail
  go_ret
  exact ⟨_, rfl, F', hX'.out, hlo'.out, hf'.out⟩
theorem joinAll_any {Bn : Nat} {Fn : Nat → Prop} {N : Nat → Nat → Bool} (h : Kp w B ps pb pc Fs Fb Fc s M C) (hn : Mx w Bn Fn s N) (hd : ∀ k, Fn k → ¬ KF B Fs Fb Fc k) (hT : Tab w) (htab : ∀ k, KF B Fs Fb Fc k → k ≠ 0) :
    Calls Tryd.prog 79 #[.pointer (some ⟨B, 0, none⟩), .pointer (some ⟨Bn, 0, none⟩)] w fun e w' => ∃ Br, e = .returned (.pointer (some ⟨Br, 0, none⟩)) ∧ ∃ Fr pc' Fs' Fb' Fc' C', Kp w' B ps pb pc' Fs' Fb' Fc' s (joinM M N) C' ∧ (∀ r c, C r c = true → C' r c = true) ∧ Mx w' Br Fr s (lsM C' C) ∧ (∀ k, Fr k → ¬ KF B Fs' Fb' Fc' k) ∧ (∀ k, Fr k → w.heap.size ≤ k) ∧ Mv w w' (KF B Fs Fb Fc) (KF B Fs' Fb' Fc') := by
  have hb1 := h.b1
  have c0 : w.cell? ⟨B, 0, none⟩ = some (.pointer (some ⟨ps, 0, none⟩)) := h.box.cell 0
  have J1 := qjoin_any h.st hn
  have hnb : ¬ Fn B := fun e => hd B e (.inl rfl)
  have hBl := h.box.lt
  have h' := Lib.hid h
  have hn' := Lib.hid hn
  have hd' := Lib.hid hd
  have hT' := Lib.hid hT
  have htab' := Lib.hid htab
  clear h hn hd hT htab
  go_enter Tryd.func79, Tryd.ntmps79
  go_wp2_with fail
  refine J1.mono ?_
  rintro e w1 ⟨v1, rfl, hv1, Fs1, hX1, hm1⟩
  have hbx1 : Bk w1 B 113 #[.pointer (some ⟨ps, 0, none⟩), .pointer (some ⟨pb, 0, none⟩), .pointer (some ⟨pc, 0, none⟩)] := h'.out.box.far' hm1.far hb1.1
  have hn1 := hn'.out.kept hm1.far fun k hk e => hd'.out k hk (.inr (.inl e))
  have hbk1 := h'.out.bk.kept hm1.far fun k hk e => h'.out.d1 k e hk
  have hcl1 := h'.out.cl.kept hm1.far fun k hk e => h'.out.d2 k e hk
  have hFs1 : ∀ k, Fs1 k → Fs k ∨ w.heap.size ≤ k := hm1.more
  have TN := Lib.hid (fun (V : World) (hf : Far (fun _ => False) w1 V) => qturn_any (hn1.still hf))
  have cB1 : w1.cell? ⟨B, 1, none⟩ = some (.pointer (some ⟨pb, 0, none⟩)) := hbx1.cell 1
  have HB1 := Lib.hid (show ∀ V, Far (fun _ => False) w1 V → V.cell? ⟨B, 1, none⟩ = some (.pointer (some ⟨pb, 0, none⟩)) from fun V hf => (hbx1.far' hf id).cell 1)
  have hX1' := Lib.hid hX1
  have hm1' := Lib.hid hm1
  have hbx1' := Lib.hid hbx1
  have hn1' := Lib.hid hn1
  have hbk1' := Lib.hid hbk1
  have hcl1' := Lib.hid hcl1
  have hFs1' := Lib.hid hFs1
  have hb1' := Lib.hid hb1
  clear J1 hv1 hX1 hm1 hbx1 hn1 hbk1 hcl1 hFs1 hb1 c0
  go_wp2_with fail
  go_region_held3 (fun w' => w'.cell? ⟨B, 1, none⟩ = some (.pointer (some ⟨pb, 0, none⟩))) (go_keep)
    (first
      | (go_at_call 12; refine (TN.out _ (Far.refl _ w1).drew).mono ?_; rintro e w2 ⟨Bt, rfl, Ft, hXt, hlot, hf2⟩; have cB1 := HB1.out w2 (((Far.refl _ w1).drew).then hf2); have hXt' := Lib.hid hXt; have hlot' := Lib.hid hlot; have hf2' := Lib.hid (((Far.refl _ w1).drew).then hf2); have J2 := Lib.hid (fun (V : World) (hf : Far (fun _ => False) w2 V) => qjoin_any ((hbk1'.out.still hf2'.out).still hf) (hXt'.out.still hf)); clear hXt hlot hf2)
      | (go_at_call 24; refine (J2.out _ (Far.refl _ w2)).mono ?_; rintro e w3 ⟨v3, rfl, hv3, Fb3, hX3, hm3⟩; have cB1 : w3.cell? ⟨B, 1, none⟩ = some (.pointer (some ⟨pb, 0, none⟩)) := ((hbx1'.out.far' hf2'.out id).far' hm3.far hb1'.out.2.1).cell 1; have hX3' := Lib.hid hX3; have hm3' := Lib.hid hm3; clear hX3 hm3 hv3))
  have hz2 := hf2'.out.size
  have hz1 := hm1'.out.far.size
  have hz3 := hm3'.out.far.size
  have hFs3 : ∀ k, Fs1 k → ¬ Fb k := fun k h1 h2 => (hFs1'.out k h1).elim (fun h => h'.out.d1 k h h2) fun h => by have := h'.out.bk.lt k h2; omega
  have hst3 : Mx w3 ps Fs1 s (joinM M N) := (hX1'.out.still hf2'.out).kept hm3'.out.far fun k hk e => hFs3 k hk e
  have hbk3 : Mx w3 pb Fb3 s (tnM (joinM M N)) := hX3'.out.congr fun _ _ => rfl
  have hcl3 : Mx w3 pc Fc s C := (hcl1'.out.still hf2'.out).kept hm3'.out.far fun k hk e => h'.out.d3 k e hk
  have hn3 : Mx w3 Bn Fn s N := (hn1'.out.still hf2'.out).kept hm3'.out.far fun k hk e => hd'.out k hk (.inr (.inr (.inl e)))
  have hbx3 : Bk w3 B 113 #[.pointer (some ⟨ps, 0, none⟩), .pointer (some ⟨pb, 0, none⟩), .pointer (some ⟨pc, 0, none⟩)] := (hbx1'.out.far' hf2'.out id).far' hm3'.out.far hb1'.out.2.1
  have hFb3 : ∀ k, Fb3 k → Fb k ∨ w1.heap.size ≤ k := fun k hk => (hm3'.out.more k hk).imp id fun h => by omega
  have hfw3 : Far (KF B Fs Fb Fc) w w3 := ((hm1'.out.far.mono (G := KF B Fs Fb Fc) fun k _ h => .inr (.inl h)).trans hf2'.out fun _ _ h => h.elim).trans hm3'.out.far fun k _ h => .inr (.inr (.inl h))
  have hd13 : ∀ k, Fs1 k → ¬ Fb3 k := fun k h1 h2 => (hFb3 k h2).elim (hFs3 k h1) fun h => by have := hX1'.out.lt k h1; omega
  have hT3 := tab_far hT'.out hfw3 fun h => htab'.out _ h rfl
  have cB2 : w3.cell? ⟨B, 2, none⟩ = some (.pointer (some ⟨pc, 0, none⟩)) := hbx3.cell 2
  have CP := qcopy_any hcl3
  have hst3' := Lib.hid hst3
  have hbk3' := Lib.hid hbk3
  have hcl3' := Lib.hid hcl3
  have hn3' := Lib.hid hn3
  have hbx3' := Lib.hid hbx3
  have hFb3' := Lib.hid (show ∀ k, Fb3 k → Fb k ∨ w.heap.size ≤ k from fun k hk => (hFb3 k hk).imp id fun h => by omega)
  have hfw3' := Lib.hid hfw3
  have hd13' := Lib.hid hd13
  have hT3' := Lib.hid hT3
  have hzw3 := Lib.hid (show w.heap.size ≤ w3.heap.size from by omega)
  clear TN J2 HB1 hz2 hz1 hz3 hFs3 hst3 hbk3 hcl3 hn3 hbx3 hFb3 hfw3 hd13 hT3 hX1' hm1' hbx1' hn1' hbk1' hcl1' hXt' hlot' hf2' hX3' hm3' cB1
  go_wp2_with fail
  refine CP.mono ?_
  rintro e w4 ⟨p4, rfl, F4, hX4, hlo4, hf4⟩
  have hn4 := hn3'.out.still hf4
  have J3 := qjoin_any hX4 hn4
  have hlt4 := Lib.hid hX4.lt
  have hlo4' := Lib.hid hlo4
  have hf4' := Lib.hid hf4
  clear CP hX4 hlo4 hf4 hn4 cB2
  go_wp2_with fail
  refine J3.mono ?_
  rintro e w5 ⟨v5, rfl, hv5, F5, hX5, hm5⟩
  have hf35 : Far (fun _ => False) w3 w5 := hf4'.out.trans hm5.far fun k hk e => by have := hlo4'.out k e; omega
  have CL := closed_any hX5 (hT3'.out.still hf35)
  have hf35' := Lib.hid hf35
  clear J3 hv5 hX5 hm5 hf35
  go_wp2_with fail
  refine CL.mono ?_
  rintro e w6 ⟨p6, rfl, F6, C', hc6, hX6, hlo6, hf6⟩
  have hf36 : Far (fun _ => False) w3 w6 := hf35'.out.then hf6
  have hbx6 := hbx3'.out.far' hf36 id
  have cB6 : w6.cell? ⟨B, 2, none⟩ = some (.pointer (some ⟨pc, 0, none⟩)) := hbx6.cell 2
  have fB6 := hbx6.free 2
  have hlo36 : ∀ k, F6 k → w3.heap.size ≤ k := fun k hk => Nat.le_trans hf35'.out.size (hlo6 k hk)
  have hB6 : ¬ F6 B := fun h => by have := hlo36 B h; have := hbx3'.out.lt; omega
  obtain ⟨W7, hW7⟩ : ∃ V, V = w6.setCell ⟨B, 2, none⟩ (.pointer (some ⟨p6, 0, none⟩)) := ⟨_, rfl⟩
  have hbx7 : Bk W7 B 113 #[.pointer (some ⟨ps, 0, none⟩), .pointer (some ⟨pb, 0, none⟩), .pointer (some ⟨p6, 0, none⟩)] := hW7 ▸ hbx6.set 2 _
  have hf67 : Far (fun k => k = B) w6 W7 := hW7 ▸ (Far.refl (fun k => k = B) w6).set _ _ fun _ => rfl
  have hX7 := hX6.kept hf67 fun k hk e => hB6 (e ▸ hk)
  have hcl7 := (hcl3'.out.still hf36).kept hf67 fun k hk e => h'.out.b1.2.2 (e ▸ hk)
  have cB7 : W7.cell? ⟨B, 2, none⟩ = some (.pointer (some ⟨p6, 0, none⟩)) := hbx7.cell 2
  have LS := qless_yes hX7 hcl7
  have hbx7' := Lib.hid hbx7
  have hX7' := Lib.hid hX7
  have hf67' := Lib.hid hf67
  have hf36' := Lib.hid hf36
  have hlo36' := Lib.hid hlo36
  have hc6' := Lib.hid hc6
  have hW7' := Lib.hid hW7
  have hB6' := Lib.hid hB6
  clear CL hc6 hX6 hlo6 hf6 hf36 hbx6 hlo36 hB6 hbx7 hf67 hX7 hcl7 hW7
  go_upto_region 7 with fail
  rw [← hW7'.out]
  clear cB6 fB6
  go_wp2_with fail
  refine LS.mono ?_
  rintro e w8 ⟨p8, rfl, F8, hX8, hlo8, hf8⟩
  have hX8' := Lib.hid hX8
  have hlo8' := Lib.hid hlo8
  have hf8' := Lib.hid hf8
  clear LS hX8 hlo8 hf8 cB7
  go_wp2_with fail
  go_ret
  have hzw := hzw3.out
  have hz36 := hf36'.out.size
  have hz67 := hf67'.out.size
  have hbs : ∀ k, Fs1 k → k ≠ B := fun k hk e => hst3'.out.notBk hbx3'.out (by decide) (by decide) (by decide) (e ▸ hk)
  have hbb : ∀ k, Fb3 k → k ≠ B := fun k hk e => hbk3'.out.notBk hbx3'.out (by decide) (by decide) (by decide) (e ▸ hk)
  have hKF : ∀ k, KF B Fs1 Fb3 F6 k → k < W7.heap.size := fun k hk => by
    rcases hk with rfl | h | h | h
    · exact hbx7'.out.lt
    · have := hst3'.out.lt k h; omega
    · have := hbk3'.out.lt k h; omega
    · exact hX7'.out.lt k h
  refine ⟨p8, rfl, F8, p6, Fs1, Fb3, F6, C', ⟨hbx7'.out.far' hf8'.out id, ((hst3'.out.still hf36'.out).kept hf67'.out fun k hk e => hbs k hk e).still hf8'.out, ((hbk3'.out.still hf36'.out).kept hf67'.out fun k hk e => hbb k hk e).still hf8'.out, hX7'.out.still hf8'.out, clo_joinC h'.out.clo hc6'.out, hd13'.out, fun k hk e => ?_, fun k hk e => ?_⟩, fun r c e => hc6'.out.has (by unfold joinM; rw [e]; rfl), hX8'.out, fun k hk e => ?_, fun k hk => ?_, ⟨?_, fun k hk => ?_⟩⟩
  · have := hst3'.out.lt k hk; have := hlo36'.out k e; omega
  · have := hbk3'.out.lt k hk; have := hlo36'.out k e; omega
  · have := hKF k e; have := hlo8'.out k hk; omega
  · have := hlo8'.out k hk; omega
  · exact ((hfw3'.out.trans hf36'.out fun _ _ h => h.elim).trans hf67'.out fun k _ e => .inl e).trans hf8'.out fun _ _ h => h.elim
  · rcases hk with rfl | h | h | h
    · exact .inl (.inl rfl)
    · exact (hFs1'.out k h).imp (fun h => .inr (.inl h)) id
    · exact (hFb3'.out k h).imp (fun h => .inr (.inr (.inl h))) id
    · exact .inr (Nat.le_trans hzw (hlo36'.out k h))
end
end Go.Proofs.YtjolkhiggcmoiaaDoor
/-! ## QRJoin2: A keeper's Join: a matrix's steps more. -/
namespace Go.Proofs.YtjolkhiggcmoiaaDoor
open Go.RowKit Go.Shelf
set_option linter.unusedVariables false
set_option linter.unusedSimpArgs false
attribute [local go_sem] Oper.semAt_some
/-- A matrix and a list's cells. -/
def putsP (M : Nat → Nat → Bool) (t : List (Nat × Nat)) : Nat → Nat → Bool := fun r c => M r c || decide ((r, c) ∈ t)
theorem putsP_nil (M : Nat → Nat → Bool) : ∀ r c, putsP M [] r c = M r c := fun r c => by unfold putsP; simp
theorem putsP_snoc (M : Nat → Nat → Bool) (t : List (Nat × Nat)) (a b : Nat) : ∀ r c, putsP M (t ++ [(a, b)]) r c = putM (putsP M t) a b r c := fun r c => by
  unfold putM putsP
  rw [Bool.eq_iff_iff]
  simp only [Bool.or_eq_true, Bool.and_eq_true, decide_eq_true_eq, List.mem_append, List.mem_singleton, Prod.mk.injEq, or_assoc]
theorem putsP_all {M N : Nat → Nat → Bool} {s : Nat} (hw : ∀ r c, N r c = true → r < s ∧ c < s) : ∀ r c, putsP M (cellsL N s) r c = joinM M N r c := fun r c => by
  unfold putsP joinM
  rw [Bool.eq_iff_iff]
  simp only [Bool.or_eq_true, decide_eq_true_eq, mem_cellsL hw]
/-- The matrix of the new cells, in a variable. -/
def JT (s hf pf : Nat) (N0 : Nat → Nat → Bool) (t : List (Nat × Nat)) (F : Nat → Prop) (V : World) : Prop := ∃ F', Bk V hf 24 #[.pointer (some ⟨pf, 0, none⟩)] ∧ Mx V pf F' s (putsP N0 t) ∧ F = fun k => k = hf ∨ F' k
section
set_option maxHeartbeats 4000000
set_option maxRecDepth 100000
theorem join1_any {s hf pf : Nat} (N0 : Nat → Nat → Bool) : Tel s 80 #[.pointer (some ⟨hf, 0, none⟩)] (JT s hf pf N0) where
  enter := enters_of Tryd.func80 (by kernel_rfl) rfl
  lt := by
    rintro t F V ⟨F', hb, hX, rfl⟩ k (rfl | hk)
    · exact hb.lt
    · exact hX.lt k hk
  still := by
    rintro t F V V' H ⟨F', hb, hX, rfl⟩ hfar hn
    exact ⟨F', hb.far' hfar (hn _ (.inl rfl)), hX.kept hfar fun k hk => hn k (.inr hk), rfl⟩
  tell := by
    rintro t F V ⟨F', hb, hX, rfl⟩ r c hr hc _
    have SE := qset_yes hX r c hr hc
    have hnb : ¬ F' hf := hX.notBk hb (by decide) (by decide) (by decide)
    have c0 : V.cell? ⟨hf, 0, none⟩ = some (.pointer (some ⟨pf, 0, none⟩)) := hb.cell 0
    have hb' := Lib.hid hb
    clear hb hX
    go_enter Tryd.func80, Tryd.ntmps80
    go_wp2_with fail
    refine SE.mono ?_
    rintro e w1 ⟨rfl, F1, hX1, hm1⟩
    have hX1' := Lib.hid hX1
    have hm1' := Lib.hid hm1
    clear SE hX1 hm1
    go_wp2_with fail
    go_end0
    refine ⟨rfl, _, ⟨F1, hb'.out.far' hm1'.out.far hnb, hX1'.out.congr fun a b => putsP_snoc N0 t r c a b, rfl⟩, ⟨hm1'.out.far.mono fun k _ h => .inr h, fun k hk => ?_⟩⟩
    rcases hk with rfl | hk
    · exact .inl (.inl rfl)
    · exact (hm1'.out.more k hk).imp (fun h => .inr h) id
end
/-- Where Join stands, of the cells handed out so far. -/
structure JI (B ps pb pc h2 hf pf s : Nat) (M C0 : Nat → Nat → Bool) (W0 : World) (F0 : Nat → Prop) (pre : List (Nat × Nat)) (Fs Fb Fc Fr : Nat → Prop) (C' : Nat → Nat → Bool) (V : World) : Prop where
  kp : Kp V B ps pb pc Fs Fb Fc s (putsP M pre) C'
  b2 : Bk V h2 55 #[.pointer (some ⟨B, 0, none⟩)]
  bx : Bk V hf 24 #[.pointer (some ⟨pf, 0, none⟩)]
  fr : Mx V pf Fr s (lsM C' C0)
  dj : ∀ k, KF B Fs Fb Fc k → ¬ (k = hf ∨ Fr k)
  sub : ∀ r c, C0 r c = true → C' r c = true
  far : Far F0 W0 V
  more : ∀ k, KF B Fs Fb Fc k ∨ Fr k → F0 k ∨ W0.heap.size ≤ k
section
variable {B ps pb pc h2 hf pf s : Nat} {M C0 C' : Nat → Nat → Bool} {W0 A V : World} {F0 Fs Fb Fc Fr : Nat → Prop} {pre : List (Nat × Nat)}
theorem JI.cells (h : JI B ps pb pc h2 hf pf s M C0 W0 F0 pre Fs Fb Fc Fr C' A) {k : Nat} (hk : KF B Fs Fb Fc k ∨ k = hf ∨ Fr k) {o : Obj} (ho : A.heap[k]? = some o) : o.isCells = true := by
  rcases hk with (rfl | e | e | e) | rfl | e
  · have := h.kp.box.symm.trans ho; cases this; rfl
  · exact h.kp.st.cells e ho
  · exact h.kp.bk.cells e ho
  · exact h.kp.cl.cells e ho
  · have := h.bx.symm.trans ho; cases this; rfl
  · exact h.fr.cells e ho
theorem JI.go {row : Option Nat} (h : JI B ps pb pc h2 hf pf s M C0 W0 F0 pre Fs Fb Fc Fr C' A) (hg : A.grownBy V row) (hr : ∀ r, row = some r → W0.heap.size ≤ r ∧ ∃ o : Obj, A.heap[r]? = some o ∧ o.isCells = false) : JI B ps pb pc h2 hf pf s M C0 W0 F0 pre Fs Fb Fc Fr C' V := by
  have hne : ∀ k, (KF B Fs Fb Fc k ∨ k = hf ∨ Fr k) → ¬ row = some k := fun k hk e => by
    obtain ⟨_, o, ho, hc⟩ := hr k e
    rw [h.cells hk ho] at hc
    cases hc
  exact ⟨h.kp.kept (grown_F hg) fun k hk e => hne k (.inl hk) e, bk_other h.b2 (grown_F hg) fun k e => (hr k e).2, bk_other h.bx (grown_F hg) fun k e => (hr k e).2, h.fr.kept (grown_F hg) fun k hk e => hne k (.inr (.inr hk)) e, h.dj, h.sub, far_own h.far hg hr, h.more⟩
end
section
variable {w : World} {B ps pb pc s : Nat} {Fs Fb Fc : Nat → Prop} {M C : Nat → Nat → Bool}
set_option maxHeartbeats 16000000
set_option maxRecDepth 100000
theorem mx_shut {w w' : World} {b B s : Nat} {F : Nat → Prop} {M : Nat → Nat → Bool} (h : Mx w B F s M) (hf : Far (fun k => b ≤ k ∧ w.heap[k]? = some (.deferred (some []))) w w') : Mx w' B F s M := h.kept hf fun k hk e => by
  have := h.cells hk e.2
  cases this
theorem kp_shut {w' : World} {b : Nat} (h : Kp w B ps pb pc Fs Fb Fc s M C) (hf : Far (fun k => b ≤ k ∧ w.heap[k]? = some (.deferred (some []))) w w') : Kp w' B ps pb pc Fs Fb Fc s M C :=
  ⟨h.box.shut hf, mx_shut h.st hf, mx_shut h.bk hf, mx_shut h.cl hf, h.clo, h.d1, h.d2, h.d3⟩
theorem Kp.congr {M' : Nat → Nat → Bool} (h : Kp w B ps pb pc Fs Fb Fc s M C) (e : ∀ r c, M' r c = M r c) : Kp w B ps pb pc Fs Fb Fc s M' C := by
  have : M' = M := funext fun r => funext fun c => e r c
  rw [this]; exact h
theorem kjoin_yes {Bn : Nat} {Fn : Nat → Prop} {N : Nat → Nat → Bool} (h : Kp w B ps pb pc Fs Fb Fc s M C) (hn : Mx w Bn Fn s N) (hd : ∀ k, Fn k → ¬ KF B Fs Fb Fc k) (hT : Tab w) (htab : ∀ k, KF B Fs Fb Fc k → k ≠ 0) :
    Calls Tryd.prog 30 #[.pointer (some ⟨B, 0, none⟩), .pointer (some ⟨Bn, 0, none⟩)] w fun e w' => ∃ Br, e = .returned (.tuple #[.pointer (some ⟨Br, 0, none⟩), .int .i64 0]) ∧ ∃ Fr pc' Fs' Fb' Fc' C', Kp w' B ps pb pc' Fs' Fb' Fc' s (joinM M N) C' ∧ (∀ r c, C r c = true → C' r c = true) ∧ Mx w' Br Fr s (lsM C' C) ∧ (∀ k, Fr k → ¬ KF B Fs' Fb' Fc' k) ∧ (∀ k, Fr k → KF B Fs Fb Fc k ∨ w.heap.size ≤ k) ∧ Mv w w' (KF B Fs Fb Fc) (KF B Fs' Fb' Fc') := by
  obtain ⟨hs1, hs2⟩ := h.st.sides
  obtain ⟨h2, hh2⟩ : ∃ h, h = w.heap.size := ⟨_, rfl⟩
  obtain ⟨W1, hW1⟩ : ∃ V, V = w.alloc (.cells #[.pointer (some ⟨B, 0, none⟩)] 55) := ⟨_, rfl⟩
  have hf1 : Far (fun _ => False) w W1 := hW1 ▸ (Far.refl _ w).alloc _
  have b2 : Bk W1 h2 55 #[.pointer (some ⟨B, 0, none⟩)] := hW1 ▸ Bk.new hh2
  have c2 : W1.cell? ⟨h2, 0, none⟩ = some (.pointer (some ⟨B, 0, none⟩)) := b2.cell 0
  have NO := knone_same (h.still hf1)
  have AB := absent_no (hn.still hf1)
  have hBl := h.box.lt
  have h' := Lib.hid h
  have hn' := Lib.hid hn
  have hd' := Lib.hid hd
  have hT' := Lib.hid hT
  have htab' := Lib.hid htab
  have hh2' := Lib.hid hh2
  have hW1' := Lib.hid hW1
  have hf1' := Lib.hid hf1
  have b2' := Lib.hid b2
  clear h hn hd hT htab hh2 hW1 hf1 b2
  refine (callsIn_wide (n := 10)).1 (callsIn_of_wp_marks Tryd.func30 rfl trivial (wpIn_wide.2 ?_) rfl)
  simp only [Tryd.ntmps30, List.size_toArray, List.length_cons, List.length_nil, Nat.reduceAdd, Nat.reduceSub, Array.replicate_succ, Array.replicate_zero, List.push_toArray, List.append_toArray, List.nil_append, List.cons_append]
  go_upto_region 1 with fail
  rw [← hh2'.out, ← hW1'.out]
  go_wp2_with fail
  refine NO.mono ?_
  rintro e w9 ⟨rfl, e9⟩
  replace e9 := e9.symm
  subst e9
  go_wp2_with fail
  refine AB.mono ?_
  rintro e w2 ⟨rfl, hf2⟩
  have hfw2 := hf1'.out.then hf2
  have SD := Lib.hid (fun (V : World) (hf : Far (fun _ => False) w2 V) => (hn'.out.still (hfw2.then hf)).side)
  have KS := Lib.hid (fun (V : World) (hf : Far (fun _ => False) w2 V) => kside_any (h'.out.still (hfw2.then hf)))
  have c2 : w2.cell? ⟨h2, 0, none⟩ = some (.pointer (some ⟨B, 0, none⟩)) := (b2'.out.far' hf2 id).cell 0
  have hfw2' := Lib.hid hfw2
  have hf2' := Lib.hid hf2
  clear NO AB hfw2 hf2
  go_upto_region 3 with fail
  go_cut [22] from 18 to 22 (fun tv wc => tv = .bool false ∧ Far (fun _ => False) w2 wc)
  case first =>
    go_region_held3 (fun w' => w'.cell? ⟨h2, 0, none⟩ = some (.pointer (some ⟨B, 0, none⟩))) (go_keep)
      (first
        | (go_at_call 26; refine (SD.out _ (Far.refl _ w2).drew).mono ?_; rintro e w8 ⟨rfl, e8⟩; replace e8 := e8.symm; subst e8)
        | (go_at_call 78; refine (KS.out _ (Far.refl _ w2).drew).mono ?_; rintro e w8 ⟨rfl, e8⟩; replace e8 := e8.symm; subst e8))
    all_goals
      go_wp2_with fail
      go_meet
      exact ⟨rfl, (Far.refl _ w2).drew⟩
  case rest =>
    obtain ⟨rfl, hfc⟩ := hcut
    obtain ⟨w3, hw3⟩ : ∃ V, V = wc := ⟨_, rfl⟩
    rw [← hw3] at hfc ⊢
    clear hw3
    have hfw3 := hfw2'.out.then hfc
    have kp3 := h'.out.still hfw3
    have cB : w3.cell? ⟨B, 2, none⟩ = some (.pointer (some ⟨pc, 0, none⟩)) := kp3.box.cell 2
    have c2 : w3.cell? ⟨h2, 0, none⟩ = some (.pointer (some ⟨B, 0, none⟩)) := ((b2'.out.far' hf2'.out id).far' hfc id).cell 0
    have b23 := Lib.hid ((b2'.out.far' hf2'.out id).far' hfc id)
    have LS := qless_yes (hn'.out.still hfw3) kp3.cl
    have hfw3' := Lib.hid hfw3
    clear SD KS hfc hfw3 kp3 hfw2' hf2'
    go_wp2_with fail
    refine LS.mono ?_
    rintro e w4 ⟨Bl, rfl, Fl, hl, hlol, hf4⟩
    have hfw4 := hfw3'.out.then hf4
    obtain ⟨X, hX⟩ : ∃ X, numM (lsM N C) = X := ⟨_, rfl⟩
    have LN := Lib.hid (fun (V : World) (hf : Far (fun _ => False) w4 V) => qlen_any (hl.still hf))
    rw [hX] at LN
    have KS := Lib.hid (fun (V : World) (hf : Far (fun _ => False) w4 V) => kside_any (h'.out.still (hfw4.then hf)))
    have HC4 := Lib.hid (show ∀ V, Far (fun _ => False) w4 V → V.cell? ⟨h2, 0, none⟩ = some (.pointer (some ⟨B, 0, none⟩)) from fun V hf => ((b23.out.far' hf4 id).far' hf id).cell 0)
    have b24 := Lib.hid (b23.out.far' hf4 id)
    have c2 := HC4.out w4 (Far.refl _ _)
    have hfw4' := Lib.hid hfw4
    clear LS hl hlol hf4 hfw4 cB hX hfw3' b23
    go_upto_region 6 with fail
    by_cases hgt : s < X
    · have hgi : (s : Int) < (X : Int) := by omega
      have hgi2 : (X : Int) > (s : Int) := by omega
      go_cut [36] from 32 to 36 (fun tv wc => tv = .bool true ∧ Far (fun _ => False) w4 wc)
      case first =>
        go_region_held3 (fun w' => w'.cell? ⟨h2, 0, none⟩ = some (.pointer (some ⟨B, 0, none⟩))) (go_keep)
          (first
            | (go_at_call 31; refine (LN.out _ (Far.refl _ w4).drew).mono ?_; rintro e w8 ⟨rfl, hf8⟩; have c2 := HC4.out w8 (((Far.refl _ w4).drew).then hf8); have hf8' := Lib.hid (((Far.refl _ w4).drew).then hf8); clear hf8)
            | (go_at_call 78; refine (KS.out _ (by first | exact (Far.refl _ w4).drew | exact hf8'.out)).mono ?_; rintro e w7 ⟨rfl, e7⟩; replace e7 := e7.symm; subst e7))
        all_goals
          go_wp2_with fail
          go_meet
          exact ⟨by first | rfl | simp [hgt], hf8'.out⟩
      case rest =>
        obtain ⟨rfl, hfc⟩ := hcut
        obtain ⟨w5, hw5⟩ : ∃ V, V = wc := ⟨_, rfl⟩
        rw [← hw5] at hfc ⊢
        clear hw5
        have hfw5 := hfw4'.out.then hfc
        have c2 := HC4.out w5 hfc
        have JA := joinAll_any (h'.out.still hfw5) (hn'.out.still hfw5) hd'.out (hT'.out.still hfw5) htab'.out
        have hfw5' := Lib.hid hfw5
        clear LN KS hfc hfw5 hgi hgi2 hgt
        go_wp2_with fail
        refine JA.mono ?_
        rintro e w6 ⟨Br, rfl, Fr, pc', Fs', Fb', Fc', C', k1, k2, k3, k4, k5, k6⟩
        have k1' := Lib.hid k1
        have k2' := Lib.hid k2
        have k3' := Lib.hid k3
        have k4' := Lib.hid k4
        have k5' := Lib.hid k5
        have k6' := Lib.hid k6
        clear JA k1 k2 k3 k4 k5 k6
        go_wp2_with fail
        refine leave_marks (Marks.nil _ w.heap.size) fun W' hfW => ?_
        have hz5 := hfw5'.out.size
        refine ⟨.tuple #[.pointer (some ⟨Br, 0, none⟩), .int .i64 0], by simp [results, Tryd.f30, go_sem], Br, rfl, Fr, pc', Fs', Fb', Fc', C', kp_shut k1'.out hfW, k2'.out, mx_shut k3'.out hfW, k4'.out, fun k hk => .inr (Nat.le_trans hz5 (k5'.out k hk)), ⟨((hfw5'.out.mono fun _ _ h => h.elim).trans k6'.out.far fun _ _ h => h).trans hfW fun k hk e => by have := e.1; omega, fun k hk => (k6'.out.more k hk).imp id fun h => Nat.le_trans hz5 h⟩⟩
    · have hgi : ¬ (s : Int) < (X : Int) := by omega
      have hgi2 : ¬ (X : Int) > (s : Int) := by omega
      go_cut [36] from 32 to 36 (fun tv wc => tv = .bool false ∧ Far (fun _ => False) w4 wc)
      case first =>
        go_region_held3 (fun w' => w'.cell? ⟨h2, 0, none⟩ = some (.pointer (some ⟨B, 0, none⟩))) (go_keep)
          (first
            | (go_at_call 31; refine (LN.out _ (Far.refl _ w4).drew).mono ?_; rintro e w8 ⟨rfl, hf8⟩; have c2 := HC4.out w8 (((Far.refl _ w4).drew).then hf8); have hf8' := Lib.hid (((Far.refl _ w4).drew).then hf8); clear hf8)
            | (go_at_call 78; refine (KS.out _ (by first | exact (Far.refl _ w4).drew | exact hf8'.out)).mono ?_; rintro e w7 ⟨rfl, e7⟩; replace e7 := e7.symm; subst e7))
        all_goals
          go_wp2_with fail
          go_meet
          exact ⟨by first | rfl | simp [hgt], hf8'.out⟩
      case rest =>
        obtain ⟨rfl, hfc⟩ := hcut
        obtain ⟨w5, hw5⟩ : ∃ V, V = wc := ⟨_, rfl⟩
        rw [← hw5] at hfc ⊢
        clear hw5
        have hfw5 := hfw4'.out.then hfc
        have b25 := b24.out.far' hfc id
        have SD := (hn'.out.still hfw5).side
        have NW := qnew_yes s hs1 hs2 w5
        have hfw5' := Lib.hid hfw5
        have b25' := Lib.hid b25
        clear LN KS HC4 hfc hfw5 hgi hgi2 hgt c2 b25 b24 hfw4'
        go_wp2_with fail
        refine SD.mono ?_
        rintro e w9 ⟨rfl, e9⟩
        subst e9
        clear SD
        go_wp2_with fail
        refine NW.mono ?_
        rintro e w6 ⟨rfl, lv, hlv, hwd, hBm, hf6⟩
        have hM6 := Mx.new (w := w5) hs1 hs2 hlv hwd hBm
        obtain ⟨pf, hpf⟩ : ∃ p, p = w5.heap.size := ⟨_, rfl⟩
        rw [← hpf] at hM6 ⊢
        obtain ⟨h8, hh8⟩ : ∃ h, h = w6.heap.size := ⟨_, rfl⟩
        obtain ⟨W7, hW7⟩ : ∃ V, V = w6.alloc (.cells #[.pointer (some ⟨pf, 0, none⟩)] 24) := ⟨_, rfl⟩
        have hf67 : Far (fun _ => False) w6 W7 := hW7 ▸ (Far.refl _ w6).alloc _
        have b8 : Bk W7 h8 24 #[.pointer (some ⟨pf, 0, none⟩)] := hW7 ▸ Bk.new hh8
        have hfw7 := hfw5'.out.then (hf6.then hf67)
        have CE := qCells_any (hn'.out.still hfw7)
        have hM7 := hM6.still hf67
        have hF7 : ∀ k, Qf pf (.slice none 0 0) (.slice none 0 0) k → w.heap.size ≤ k := fun k hk => by
          rw [Qf_none hk, hpf]; exact hfw5'.out.size
        have h8w : w.heap.size ≤ h8 ∧ h2 < h8 := ⟨by rw [hh8]; exact (hfw5'.out.then hf6).size, by rw [hh8]; exact (b25'.out.far' hf6 id).lt⟩
        have b27 := b25'.out.far' (hf6.then hf67) id
        obtain ⟨Fr7, hFr7⟩ : ∃ F, Qf pf (.slice none 0 0) (.slice none 0 0) = F := ⟨_, rfl⟩
        rw [hFr7] at hM7 hF7
        have hM7' := Lib.hid hM7
        have hF7' := Lib.hid hF7
        have b27' := Lib.hid b27
        have b8' := Lib.hid b8
        have h8w' := Lib.hid h8w
        have hfw7' := Lib.hid hfw7
        have hh8' := Lib.hid hh8
        have hW7' := Lib.hid hW7
        clear NW hlv hwd hBm hf6 hM6 hpf hh8 hW7 hf67 b8 hfw7 hM7 hF7 h8w b27 hFr7 b25'
        go_upto_region 9 with fail
        rw [← hh8'.out, ← hW7'.out]
        go_wp2_with fail
        refine CE.mono ?_
        rintro e W0 ⟨bb, vb, rfl, hbX, hbO, hbz, hf0⟩
        have hfw0 := Lib.hid (hfw7'.out.then hf0)
        have hTw0 := Lib.hid (hT'.out.still hfw0.out)
        have b20 := Lib.hid (b27'.out.far' hf0 id)
        have b80 := Lib.hid (b8'.out.far' hf0 id)
        have hM0 := Lib.hid (hM7'.out.still hf0)
        have hk0 := Lib.hid (h'.out.still hfw0.out)
        have hcan' := Lib.hid (cells_canon hs2 hn'.out.within)
        have hwn' := Lib.hid hn'.out.within
        have hbX' := Lib.hid hbX
        have hbO' := Lib.hid hbO
        clear CE hf0 hbX hbO hbz b27' b8' hM7'
        go_wp2_with fail
        refine (wpIn_wide (n := 10)).1 ?_
        obtain ⟨aob, capb, rfl⟩ := q_form hbO'.out
        obtain ⟨L, hL⟩ : ∃ L, placesL N s = L := ⟨_, rfl⟩
        have hLf : L.length ≤ 256 := by have := placesL_few N hs2; rw [hL] at this; exact this
        have hLp : ∀ y ∈ L, y.1 < 16 ∧ y.2 < 16 := fun y hy => by
          rw [← hL] at hy
          obtain ⟨h1, h2, _⟩ := mem_placesL.1 hy
          have := lns_le hs2
          omega
        rw [hL] at hbO' hbX' hcan'
        clear hL
        obtain ⟨F0, hF0⟩ : ∃ F : Nat → Prop, F = fun k => KF B Fs Fb Fc k ∨ k = h8 ∨ Fr7 k := ⟨_, rfl⟩
        have hI0 : ∃ Fs' Fb' Fc' Fr C', JI B ps pb pc h2 h8 pf s M C W0 F0 [] Fs' Fb' Fc' Fr C' W0 := by
          refine ⟨Fs, Fb, Fc, Fr7, C, ⟨hk0.out.box, hk0.out.st.congr fun r c => putsP_nil M r c, hk0.out.bk.congr fun r c => putsP_nil M c r, hk0.out.cl, hk0.out.clo.congr (fun r c => putsP_nil M r c) fun _ _ => rfl, hk0.out.d1, hk0.out.d2, hk0.out.d3⟩, b20.out, b80.out, hM0.out.congr fun r c => ?_, fun k hk e => ?_, fun _ _ h => h, Far.refl _ _, fun k hk => ?_⟩
          · unfold lsM
            cases C r c <;> rfl
          · have := h'.out.lt hk
            rcases e with rfl | e
            · have := h8w'.out; omega
            · have := hF7'.out k e; omega
          · rw [hF0]
            rcases hk with h | h
            · exact .inl (.inl h)
            · exact .inl (.inr (.inr h))
        have hF0t : ∀ k, F0 k → k ≠ 0 := fun k hk => by
          rw [hF0] at hk
          have := hT'.out.lt
          rcases hk with h | rfl | h
          · exact htab'.out k h
          · have := h8w'.out; omega
          · have := hF7'.out k h; omega
        have hF0t' := Lib.hid hF0t
        have hF0' := Lib.hid hF0
        clear hF0t hF0
        refine name_frame fun T hTT => ?_
        refine range_okH (by decide) (by rw [← hTT]; rfl) (enters_of Tryd.func95 (by kernel_rfl) rfl) (qcells_seq (10 - 1) (by decide) bb W7.heap.size _ N L hLf hLp W0 hbX'.out hbO'.out hTw0.out) KT.trans (fun V l o o' hl h ho => KT.put (B := W0.heap.size) V l o o' hTw0.out.lt hl h ho) (fun _ => rfl)
          (fun pre V => ∃ Fs' Fb' Fc' Fr C', JI B ps pb pc h2 h8 pf s M C W0 F0 pre Fs' Fb' Fc' Fr C' V) (fun _ _ _ => False) ?own ?ownx hI0
          (fun pre y a' V => ((pre ++ [y]) <+: cellsF N L.length L) ∧ a' = { tmps := ((((T.setIfInBounds 48 (.int .i64 (y.1 : Nat))).setIfInBounds 49 (.int .i64 (y.2 : Nat))).setIfInBounds 10 (.int .i64 (y.1 : Nat))).setIfInBounds 11 (.int .i64 (y.2 : Nat))), defers := [] }) ?hAx ?assign ?body ?done ?stop
        case own =>
          rintro u X Y row ⟨Fs', Fb', Fc', Fr, C', h⟩ hg hr
          exact ⟨Fs', Fb', Fc', Fr, C', h.go hg hr⟩
        case ownx => exact fun c u A B row h _ _ => h
        case stop => exact fun D c pre V _ _ h _ => h.elim
        case hAx => exact fun pre y a' u A B row h _ _ => h
        case assign =>
          intro l pre y V KK hI hok hK
          have hK' := hK _ V (KeepsFrom.refl _ _) (KT.refl _) hI ⟨hok, rfl⟩
          subst hTT
          simp only [encP, List.zip_toArray, List.zip_cons_cons, List.zip_nil_right, List.foldl_toArray', List.foldl_cons, List.foldl_nil, List.setIfInBounds_toArray, List.set_cons_succ, List.set_cons_zero] at hK' ⊢
          gi_wp2
          exact hK'
        case body =>
          rintro l pre y a' X hl _ ⟨Fs1, Fb1, Fc1, Fr1, C1, hi⟩ ⟨hpre, rfl⟩
          have hm : N y.1 y.2 = true := told_there (hpre.subset (by simp))
          have hyw := hwn'.out _ _ hm
          have c2 : X.cell? ⟨h2, 0, none⟩ = some (.pointer (some ⟨B, 0, none⟩)) := hi.b2.cell 0
          have hFt : JT s h8 pf (lsM C1 C) [] (fun k => k = h8 ∨ Fr1 k) X := ⟨Fr1, hi.bx, hi.fr.congr fun r c => putsP_nil _ r c, rfl⟩
          have hTX := tab_far hTw0.out hi.far (fun h => hF0t'.out _ h rfl)
          have hin : ∀ k, KT2 B Fs1 Fb1 Fc1 (fun k => k = h8 ∨ Fr1 k) k → F0 k ∨ W0.heap.size ≤ k := fun k hk => by
            rcases hk with h | rfl | h
            · exact hi.more k (.inl h)
            · exact .inl (by rw [hF0'.out]; exact .inr (.inl rfl))
            · exact hi.more k (.inr h)
          have KA := kadd_any hi.kp (join1_any (lsM C1 C)) hFt hTX hi.dj (fun k hk => (hin k hk).elim (hF0t'.out k) fun h => by have := hTw0.out.lt; omega) hyw.1 hyw.2
          have hi' := Lib.hid hi
          have hin' := Lib.hid hin
          subst hTT
          simp only [List.setIfInBounds_toArray, List.set_cons_succ, List.set_cons_zero]
          clear hpre hm hyw hFt hTX hin hi
          gi_wp2_with (refine ⟨trivial, ?_⟩; refine (CallsIn.inRound l (callsIn_wide.2 KA)).mono ?_; rintro e V1 ⟨rfl, Fs2, Fb2, Fc2, Ft2, C2, told, hk2, ⟨Fr2, hb2, hfr2, hFt2⟩, htm, hdj, hmv⟩; have hk2' := Lib.hid hk2; have hb2' := Lib.hid hb2; have hfr2' := Lib.hid hfr2; have hFt2' := Lib.hid hFt2; have htm' := Lib.hid htm; have hdj' := Lib.hid hdj; have hmv' := Lib.hid hmv; clear KA hk2 hb2 hfr2 hFt2 htm hdj hmv)
          have hi := hi'.out
          have hmv := hmv'.out
          have hdj := hdj'.out
          have hFt2 := hFt2'.out
          subst hFt2
          have hzX := hi.far.size
          have hch : ∀ k, KT2 B Fs1 Fb1 Fc1 (fun k => k = h8 ∨ Fr1 k) k → ∀ cs t, Bk X k t cs → t = 113 ∨ t = 24 ∨ (Fs1 k ∨ Fb1 k ∨ Fc1 k ∨ Fr1 k) := fun k hk cs t hb => by
            rcases hk with (rfl | h | h | h) | rfl | h
            · exact .inl (bk_type hb hi.kp.box)
            · exact .inr (.inr (.inl h))
            · exact .inr (.inr (.inr (.inl h)))
            · exact .inr (.inr (.inr (.inr (.inl h))))
            · exact .inr (.inl (bk_type hb hi.bx))
            · exact .inr (.inr (.inr (.inr (.inr h))))
          refine ⟨⟨hmv.far.size, fun g o _ hg ho => (hmv.far.block g (Array.getElem?_eq_some_iff.1 hg).1 fun e => ?_).trans hg⟩, KT.ofFar hmv.far (by have := hTw0.out.lt; omega) fun g hg => ⟨fun e => ?_, fun cs t hb => ?_⟩, Fs2, Fb2, Fc2, Fr2, C2, ⟨?_, ?_, hb2'.out, ?_, hdj, fun r c e => htm'.out.sub r c (hi.sub r c e), hi.far.trans hmv.far fun k hk e => ?_, fun k hk => ?_⟩⟩
          · have hc := hi.cells e hg
            rw [ho] at hc
            cases hc
          · subst e
            rcases hin'.out _ hg with h | h
            · exact hF0t'.out _ h rfl
            · have := hTw0.out.lt; omega
          · rcases hch g hg cs t hb with rfl | rfl | h | h | h | h
            · decide
            · decide
            · exact hi.kp.st.types h cs t hb
            · exact hi.kp.bk.types h cs t hb
            · exact hi.kp.cl.types h cs t hb
            · exact hi.fr.types h cs t hb
          · exact hk2'.out.congr fun r c => putsP_snoc M pre y.1 y.2 r c
          · refine hi.b2.far' hmv.far fun e => ?_
            rcases hch _ e _ _ hi.b2 with h | h | h | h | h | h
            · revert h; decide
            · revert h; decide
            · exact hi.kp.st.notBk hi.b2 (by decide) (by decide) (by decide) h
            · exact hi.kp.bk.notBk hi.b2 (by decide) (by decide) (by decide) h
            · exact hi.kp.cl.notBk hi.b2 (by decide) (by decide) (by decide) h
            · exact hi.fr.notBk hi.b2 (by decide) (by decide) (by decide) h
          · refine hfr2'.out.congr fun r c => ?_
            have h1 := htm'.out.mem (r, c)
            have h2 := htm'.out.sub r c
            have h3 := hi.sub r c
            unfold putsP lsM
            rw [Bool.eq_iff_iff]
            simp only [Bool.or_eq_true, Bool.and_eq_true, decide_eq_true_eq, Bool.not_eq_true', h1]
            cases hc : C r c <;> cases hc1 : C1 r c <;> cases hc2 : C2 r c <;> simp_all
          · exact (hin'.out k e).elim id fun h => by omega
          · have : KT2 B Fs2 Fb2 Fc2 (fun k => k = h8 ∨ Fr2 k) k := hk.elim .inl fun h => .inr (.inr h)
            rcases hmv.more k this with h | h
            · exact hin'.out k h
            · exact .inr (by omega)
        case done =>
          rintro D xs V hD rfl ⟨Fs1, Fb1, Fc1, Fr1, C1, hi⟩ hK
          rw [hcan'.out] at hi
          have c8 : V.cell? ⟨h8, 0, none⟩ = some (.pointer (some ⟨pf, 0, none⟩)) := hi.bx.cell 0
          have hi' := Lib.hid hi
          have hzw0 := Lib.hid hfw0.out.size
          have m2 := Lib.hid (Marks.cons (Marks.nil W0 w.heap.size) (Marks.nil V w.heap.size) (Nat.le_trans hfw0.out.size hD) hD hK)
          subst hTT
          clear hi hK
          go_wp2_with fail
          refine leave_marks m2.out fun W' hfW => ?_
          have hi := hi'.out
          have hfr : ∀ k, F0 k ∨ W0.heap.size ≤ k → KF B Fs Fb Fc k ∨ w.heap.size ≤ k := fun k hk => by
            rcases hk with h | h
            · rw [hF0'.out] at h
              rcases h with h | rfl | h
              · exact .inl h
              · exact .inr h8w'.out.1
              · exact .inr (hF7'.out k h)
            · exact .inr (Nat.le_trans hzw0.out h)
          refine ⟨.tuple #[.pointer (some ⟨pf, 0, none⟩), .int .i64 0], by simp [results, Tryd.f30, go_sem], pf, rfl, Fr1, pc, Fs1, Fb1, Fc1, C1, (kp_shut hi.kp hfW).congr fun r c => (putsP_all hwn'.out r c).symm, hi.sub, mx_shut hi.fr hfW, fun k hk e => hi.dj k e (.inr hk), fun k hk => hfr k (hi.more k (.inr hk)), ⟨?_, fun k hk => hfr k (hi.more k (.inl hk))⟩⟩
          refine (((hfw0.out.mono fun _ _ h => h.elim).trans hi.far fun k hk e => ?_).trans hfW fun k hk e => by have := e.1; omega : Far (KF B Fs Fb Fc) w W')
          exact (hfr k (.inl e)).elim id fun h => by omega
end
end Go.Proofs.YtjolkhiggcmoiaaDoor
/-! ## QClsArg: A list of cells handed in, with its room. -/
namespace Go.Proofs.YtjolkhiggcmoiaaDoor
open Go.ChangeMaps Go.ChangeShapes Go.WideShapes Go.ChangeAt Go.RowKit
set_option linter.unusedVariables false
set_option linter.unusedSimpArgs false
set_option maxRecDepth 100000
theorem cellsC1 : Tryd.prog.cellsOf 26 = 1 := by kernel_rfl
theorem open_cls_room {H : Type} {enc : TypeId × Value → H} {w : World} {base : Nat} {fuel : Nat} {x : DataW H × List MemPlace} {c : Value} (hf : DataW.trod enc Tryd.prog w base (fun _ => true) true fuel 26 [c] = some x) : ∃ ao n cap R C, c = .slice ao n cap ∧ n ≤ cap ∧ n ≤ 9223372036854775807 ∧ Cls w ao n R C := by
  obtain ⟨f0, f1, hs, o0, o1, t0, t1⟩ := cellFields
  rcases Go.Deep.open_slice_pairs cellType hs foldCell o0 o1 (by rw [t0]; exact intCells) (by rw [t1]; exact intCells) hf with ⟨hc, _⟩ | ⟨a, len0, cap0, m, n, V0, V1, D0, D1, P0, P1, hc, hb, hl, hm, hmm, _, hi⟩
  · simp only [List.cons.injEq, and_true] at hc
    exact ⟨none, 0, 0, fun _ => 0, fun _ => 0, hc, Nat.le_refl _, by omega, fun h => absurd h (Nat.lt_irrefl _)⟩
  · simp only [List.cons.injEq, and_true] at hc
    have hmax : cap0 ≤ 9223372036854775807 := by unfold maxLen at hm; omega
    simp only [if_true] at hmm
    by_cases h0 : len0 = 0
    · rw [h0] at hc
      exact ⟨some a, 0, cap0, fun _ => 0, fun _ => 0, hc, Nat.zero_le _, by omega, fun h => absurd h (Nat.lt_irrefl _)⟩
    · obtain ⟨b, off, spot⟩ := a
      have hsp : spot = none := by
        have := (hi 0 (by omega)).1
        cases spot with
        | none => rfl
        | some x =>
          simp only [Nat.zero_mul, Addr.add, if_true, World.cell?] at this
          split at this <;> simp at this
      subst hsp
      have hlt : b < w.heap.size := by
        have := block_lt_of_cell (hi 0 (by omega)).1
        rw [add_none] at this
        exact this
      refine ⟨_, len0, cap0, fun k => intOf (V0 k), fun k => intOf (V1 k), hc, by omega, by omega, fun _ => ⟨b, off, rfl, hlt, fun k hk => ?_⟩⟩
      obtain ⟨c0, c1, g0, g1⟩ := hi k (by omega)
      rw [t0] at g0
      rw [t1] at g1
      obtain ⟨x, ex, _⟩ := DataW.trod_int intType g0
      obtain ⟨y, ey, _⟩ := DataW.trod_int intType g1
      simp only [List.cons.injEq, and_true] at ex ey
      rw [add_none] at c0 c1
      rw [ex] at c0
      rw [ey] at c1
      show _ = some (Value.int .i64 (intOf (V0 k))) ∧ _ = some (Value.int .i64 (intOf (V1 k)))
      rw [ex, ey]
      exact ⟨c0, by rw [Nat.add_assoc]; exact c1⟩
theorem open_clsC {H : Type} {enc : TypeId × Value → H} {w : World} {base : Nat} {r : Reach} {b0 : Nat} {v : Value} {d : DataW H} {ps : List MemPlace} (hv : Value.okWide Tryd.prog w r b0 26 v)
    (h : DataW.Trod enc Tryd.prog w base (fun _ => true) true 26 v d ps) : ∃ ao n cap R C, v = .slice ao n cap ∧ n ≤ cap ∧ n ≤ 9223372036854775807 ∧ Cls w ao n R C := by
  obtain ⟨a0, len0, cap0, rfl⟩ := okWide_slice cellType hv
  obtain ⟨fuel, hf⟩ := h
  exact open_cls_room (c := .slice a0 len0 cap0) hf
end Go.Proofs.YtjolkhiggcmoiaaDoor
/-! ## QRKept: A closure kept up step by step is that reckoned anew: the law. -/
namespace Go.Proofs.YtjolkhiggcmoiaaDoor
open Go.RowKit Go.Shelf
set_option linter.unusedVariables false
set_option linter.unusedSimpArgs false
theorem lin_lt {a b a' b' s : Nat} (h : lexLt (a, b) (a', b')) (hb : b < s) : a * s + b < a' * s + b' := by
  unfold lexLt at h
  dsimp only at h
  rcases h with h | ⟨rfl, h⟩
  · have : (a + 1) * s ≤ a' * s := Nat.mul_le_mul_right s h
    rw [Nat.succ_mul] at this
    omega
  · omega
theorem fold5_iff {s n : Nat} {R C : Nat → Int} (hn : n ≤ 300) {r c : Nat} : foldR05 s R C n r c = true ↔ ∃ k, k < n ∧ r = red05 s (R k) ∧ c = red05 s (C k) := by
  unfold foldR05
  rw [Nat.min_eq_left hn]
  exact putL_iff
theorem putsP_iff {M : Nat → Nat → Bool} {t : List (Nat × Nat)} {r c : Nat} : putsP M t r c = true ↔ M r c = true ∨ (r, c) ∈ t := by
  unfold putsP
  rw [Bool.or_eq_true, decide_eq_true_eq]
/-- Where the law stands in its loop: the keeper, and what was told. -/
structure KL (s : Nat) (CH : Nat → Prop) (W : World) (M T : Nat → Nat → Bool) (B ps pb pc pt : Nat) (Fs Fb Fc Ft : Nat → Prop) (C : Nat → Nat → Bool) (V : World) : Prop where
  kp : Kp V B ps pb pc Fs Fb Fc s M C
  tl : Mx V pt Ft s T
  dj : ∀ k, KF B Fs Fb Fc k → ¬ Ft k
  far : Far CH W V
  more : ∀ k, KF B Fs Fb Fc k ∨ Ft k → CH k ∨ W.heap.size ≤ k
section
set_option maxHeartbeats 16000000
set_option maxRecDepth 100000
theorem kept_law (w : World) (x y : Int) (ao : Option Addr) (n cap : Nat) (R C : Nat → Int) (hcap : n ≤ cap) (hn : n ≤ 9223372036854775807) (hC : Cls w ao n R C) (hT : Tab w) :
    Calls Tryd.prog 5 #[.int .i64 x, .slice ao n cap, .int .i64 y] w fun e w' => e = .returned (.bool true) ∧ Far (fun _ => False) w w' := by
  obtain ⟨s, hs⟩ : ∃ s, (x % 128).toNat + 1 = s := ⟨_, rfl⟩
  have hs1 : 1 ≤ s := by omega
  have hs2 : s ≤ 1024 := by omega
  have hs128 : s ≤ 128 := by omega
  have hT' := Lib.hid hT
  have hs' := Lib.hid hs
  clear hT hs
  have hC' := Lib.hid hC
  clear hC
  go_enter Tryd.func5, Tryd.ntmps5
  go_upto_if 29 with fail
  go_cut [1] from 30 to 31 (fun v wc => ∃ m : Nat, m ≤ 60 ∧ m ≤ cap ∧ v = .slice ao m cap ∧ Cls w ao m R C ∧ wc = w)
  case first =>
    by_cases h60 : n ≤ 60
    · have hi60 : ¬ (60 : Int) < (n : Int) := by omega
      go_wp2_with fail
      go_meet
      exact ⟨n, h60, hcap, rfl, hC'.out, rfl⟩
    · have hi60 : (60 : Int) < (n : Int) := by omega
      have hcl : (60 : Int) ≤ (cap : Int) := by omega
      go_wp2_with fail
      go_meet
      exact ⟨60, Nat.le_refl _, by omega, rfl, fun _ => by
        obtain ⟨g, off, e, hg, hc⟩ := hC'.out (by omega)
        exact ⟨g, off, e, hg, fun k hk => hc k (by omega)⟩, rfl⟩
  case rest =>
    obtain ⟨m, hm60, hmc, rfl, hC, hwc⟩ := hcut
    replace hwc := hwc.symm
    subst hwc
    have hC' := Lib.hid hC
    clear hC hcap hn
    have FM := fold05_any x s hs'.out ao m cap R C (by omega) _ hC'.out
    obtain ⟨M, hM⟩ : ∃ M, foldR05 s R C m = M := ⟨_, rfl⟩
    rw [hM] at FM
    have hM' := Lib.hid hM
    clear hM
    go_wp2_with fail
    refine FM.mono ?_
    rintro e w1 ⟨Bm, rfl, Fm, hm, hlom, hf1⟩
    have SD := hm.side
    have hm1' := Lib.hid hm
    have hlom' := Lib.hid hlom
    have hf1' := Lib.hid hf1
    clear FM hm hlom hf1
    go_wp2_with fail
    refine SD.mono ?_
    rintro e w9 ⟨rfl, e9⟩
    subst e9
    clear SD
    have NK := knew_yes s hs1 hs2 w1
    go_wp2_with fail
    refine NK.mono ?_
    rintro e w2 ⟨B, ps, pb, pc, Fs, Fb, Fc, rfl, hk, hlok, hf2⟩
    have NO := knew_yes s hs1 hs2 w2
    have hk2' := Lib.hid hk
    have hlok' := Lib.hid hlok
    have hf2' := Lib.hid hf2
    have hm2' := Lib.hid (hm1'.out.still hf2)
    have hfw2' := Lib.hid (hf1'.out.then hf2)
    clear NK hk hlok hf2
    go_wp2_with fail
    refine NO.mono ?_
    rintro e w3 ⟨Bo, po, qo, co, Gs, Gb, Gc, rfl, ho, hloo, hf3⟩
    have NT := qnew_yes s hs1 hs2 w3
    have hk3' := Lib.hid (hk2'.out.still hf3)
    have ho3' := Lib.hid ho
    have hloo' := Lib.hid hloo
    have hm3' := Lib.hid (hm2'.out.still hf3)
    have hfw3' := Lib.hid (hfw2'.out.then hf3)
    have hz3 := Lib.hid hf3.size
    clear NO ho hloo hf3
    go_wp2_with fail
    refine NT.mono ?_
    rintro e w4 ⟨rfl, lv, hlv, hwd, hBm, hf4⟩
    have ht4 := Mx.new (w := w3) hs1 hs2 hlv hwd hBm
    obtain ⟨pt, hpt⟩ : ∃ p, p = w3.heap.size := ⟨_, rfl⟩
    rw [← hpt] at ht4 ⊢
    have hlot : ∀ k, Qf pt (.slice none 0 0) (.slice none 0 0) k → w3.heap.size ≤ k := fun k hk => by rw [Qf_none hk, hpt]; exact Nat.le_refl _
    obtain ⟨Ft, hFt⟩ : ∃ F, Qf pt (.slice none 0 0) (.slice none 0 0) = F := ⟨_, rfl⟩
    rw [hFt] at ht4 hlot
    have hk4 := hk3'.out.still hf4
    have ho4' := Lib.hid (ho3'.out.still hf4)
    have hm4' := Lib.hid (hm3'.out.still hf4)
    have hfw4' := Lib.hid (hfw3'.out.then hf4)
    have hdkt : ∀ k, KF B Fs Fb Fc k → ¬ Ft k := fun k h1 h2 => by have := hk3'.out.lt h1; have := hlot k h2; omega
    obtain ⟨CH, hCH⟩ : ∃ CH : Nat → Prop, CH = fun k => KF B Fs Fb Fc k ∨ Ft k := ⟨_, rfl⟩
    have hCHlo : ∀ k, CH k → w1.heap.size ≤ k := fun k hk => by
      rw [hCH] at hk
      rcases hk with h | h
      · exact hlok'.out k h
      · have := hlot k h
        have := hz3.out
        have := hf2'.out.size
        omega
    have hom : ∀ k, KF Bo Gs Gb Gc k → ¬ CH k := fun k h1 h2 => by
      rw [hCH] at h2
      rcases h2 with h | h
      · have := hk2'.out.lt h; have := hloo'.out k h1; omega
      · have := ho3'.out.lt h1; have := hlot k h; omega
    have hmm : ∀ k, Fm k → ¬ CH k := fun k h1 h2 => by have := hm1'.out.lt k h1; have := hCHlo k h2; omega
    have hI0 : KL s CH w4 zeroM zeroM B ps pb pc pt Fs Fb Fc Ft zeroM w4 := ⟨hk4, ht4, hdkt, Far.refl _ _, fun k hk => .inl (by rw [hCH]; exact hk)⟩
    have hI0' := Lib.hid hI0
    have hCHlo' := Lib.hid (show ∀ k, CH k → w.heap.size ≤ k from fun k hk => Nat.le_trans hf1'.out.size (hCHlo k hk))
    have hom' := Lib.hid hom
    have hmm' := Lib.hid hmm
    have hloo2 := Lib.hid (show ∀ k, KF Bo Gs Gb Gc k → w.heap.size ≤ k from fun k hk => Nat.le_trans hfw2'.out.size (hloo'.out k hk))
    have hlm2 := Lib.hid (show ∀ k, Fm k → ¬ KF Bo Gs Gb Gc k from fun k h1 h2 => by have := hm2'.out.lt k h1; have := hloo'.out k h2; omega)
    have hTt := Lib.hid (show ∀ k, CH k → k ≠ 0 from fun k hk e => by have := hT'.out.lt; have := hCHlo k hk; have := hf1'.out.size; omega)
    clear NT hlv hwd hBm hf4 ht4 hpt hlot hFt hk4 hdkt hCH hCHlo hom hmm hI0 hk2' hlok' hf2' hm2' hfw2' hk3' ho3' hloo' hm3' hfw3' hz3 hm1' hf1' hlom'
    go_wp2_with fail
    have hstep : ∀ i, i < m → foldR05 s R C (i + 1) = putM (foldR05 s R C i) (red05 s (R i)) (red05 s (C i)) := fun i hi => by
      unfold foldR05
      rw [Nat.min_eq_left (by omega), Nat.min_eq_left (by omega)]
      rfl
    have hstep' := Lib.hid hstep
    have hz40 : foldR05 s R C 0 = zeroM := rfl
    have hz40' := Lib.hid hz40
    clear hstep hz40
    go_loopw [15] (fun iv wr => ∃ (i : Nat) (Fs Fb Fc Ft : Nat → Prop) (Ci : Nat → Nat → Bool), i ≤ m ∧ iv = .int .i64 (i : Nat) ∧ KL s CH w4 (foldR05 s R C i) Ci B ps pb pc pt Fs Fb Fc Ft Ci wr) (fun iv _ => m - (intOf iv).toNat)
    case atStart => exact ⟨0, Fs, Fb, Fc, Ft, zeroM, Nat.zero_le _, rfl, by rw [hz40'.out]; exact hI0'.out⟩
    case round =>
      clear hI0'
      obtain ⟨i, Fs, Fb, Fc, Ft, Ci, him, rfl, hI⟩ := hrel
      obtain ⟨wi, hwi⟩ : ∃ V, V = wr := ⟨_, rfl⟩
      rw [← hwi] at hI ⊢
      clear hwi
      by_cases hlt : i < m
      · have hii : (i : Int) < (m : Int) := by omega
        have hib : (i : Int) + 1 ≤ 9223372036854775807 := by omega
        have hfa : Far (fun _ => False) w wi := hfw4'.out.trans hI.far fun k hk e => by have := hCHlo'.out k e; omega
        obtain ⟨g, off, hao, hg, hc⟩ := (hC'.out.move hfa) (by omega)
        obtain ⟨c0, c1⟩ := hc i hlt
        subst hao
        obtain ⟨a, ha⟩ : ∃ a, red05 s (R i) = a := ⟨_, rfl⟩
        obtain ⟨b, hb⟩ : ∃ b, red05 s (C i) = b := ⟨_, rfl⟩
        have hal : a < s := ha ▸ red05_lt _ hs1
        have hbl : b < s := hb ▸ red05_lt _ hs1
        have e1 := i64_and127 (R i)
        have e2 := i64_and127 (C i)
        have e3 := red05_tmod s (R i)
        have e4 := red05_tmod s (C i)
        have hst := hstep'.out i hlt
        rw [ha] at e3
        rw [hb] at e4
        rw [ha, hb] at hst
        have hs0 : ((s : Int) == 0) = false := by simp; omega
        have hs00 : ¬ ((s : Int) = 0) := by omega
        have hs000 : ¬ s = 0 := by omega
        obtain ⟨Mi, hMi⟩ : ∃ Mi, foldR05 s R C i = Mi := ⟨_, rfl⟩
        rw [hMi] at hI hst
        have hTi := tab_far (hT'.out.still hfw4'.out) hI.far fun h => hTt.out _ h rfl
        have htbi : ∀ k, KF B Fs Fb Fc k → k ≠ 0 := fun k hk => (hI.more k (.inl hk)).elim (hTt.out k) fun h => by
          have := hT'.out.lt
          have := hfw4'.out.size
          omega
        have KA := Lib.hid (fun (V : World) (hf : Far (fun _ => False) wi V) => kAdd_yes (hI.kp.still hf) (hTi.still hf) htbi a b hal hbl)
        have hI' := Lib.hid hI
        have hst' := Lib.hid hst
        have hlt' := Lib.hid hlt
        clear hI hst ha hb hMi hTi htbi hc hfa hlt
        go_upto_region 15 with fail
        go_cut [16, 17] from 71 to 90 (fun v e wc => ∃ (Fs' Fb' Fc' : Nat → Prop) (C' : Nat → Nat → Bool), e = .int .i64 0 ∧ KL s CH w4 (putM Mi a b) Ci B ps pb pc pt Fs' Fb' Fc' Ft C' wc ∧ (∀ r c, Ci r c = true → C' r c = true) ∧ wc.ownsRow w4.heap.size 61 2 v (cellsL (lsM C' Ci) s).length (ccells (cellsL (lsM C' Ci) s)))
        case first =>
          go_region_with ((with_reducible refine (KA.out _ ((Far.refl (fun _ => False) wi).drew)).mono ?_); rintro e w5 ⟨v5, Fs5, Fb5, Fc5, C5, rfl, k1, k2, k3, k4, k5⟩; obtain ⟨ao5, cp5, rfl⟩ := q_form k3; have k1' := Lib.hid k1; have k2' := Lib.hid k2; have k3' := Lib.hid k3; have k5' := Lib.hid k5; clear k1 k2 k3 k4 k5)
          all_goals
            go_wp2_with fail
            go_meet
            have hI := hI'.out
            have hzi := hI.far.size
            have hd9 : Far (fun _ => False) wi wi.drew := (Far.refl _ wi).drew
            refine ⟨Fs5, Fb5, Fc5, C5, rfl, ⟨k1'.out, (hI.tl.still hd9).kept k5'.out.far fun k hk e => hI.dj k e hk, fun k hk e => ?_, (hI.far.trans hd9 fun _ _ h => h.elim).trans k5'.out.far fun k hk e => ?_, fun k hk => ?_⟩, k2'.out, own_base (b := w4.heap.size) (base := wi.drew.heap.size) hzi k3'.out⟩
            · rcases k5'.out.more k hk with h | h
              · exact hI.dj k h e
              · have := hI.tl.lt k e
                have h : wi.heap.size ≤ k := h
                omega
            · exact (hI.more k (.inl e)).elim id fun h => by omega
            · rcases hk with h | h
              · rcases k5'.out.more k h with h | h
                · exact hI.more k (.inl h)
                · exact .inr (Nat.le_trans hzi h)
              · exact hI.more k (.inr h)
        case rest =>
          obtain ⟨Fs', Fb', Fc', C', rfl, hI2, hsub, hrow⟩ := hcut
          obtain ⟨w6, hw6⟩ : ∃ V, V = wc := ⟨_, rfl⟩
          rw [← hw6] at hI2 hrow ⊢
          clear hw6
          obtain ⟨L, hL⟩ : ∃ L, cellsL (lsM C' Ci) s = L := ⟨_, rfl⟩
          have hwl : ∀ r c, lsM C' Ci r c = true → r < s ∧ c < s := fun r c e => by
            unfold lsM at e
            rw [Bool.and_eq_true] at e
            exact hI2.kp.cl.within r c e.1
          have hmemL : ∀ p, p ∈ L ↔ lsM C' Ci p.1 p.2 = true := fun p => by rw [← hL]; exact mem_cellsL hwl
          have hriseL : L.Pairwise lexLt := hL ▸ cellsK_rise (lsM C' Ci) s s
          rw [hL] at hrow
          obtain ⟨N, hN⟩ : ∃ N, L.length = N := ⟨_, rfl⟩
          have hNb : N ≤ 1048576 := by
            rw [← hN]
            exact rise_len hriseL fun p hp => by have := hwl _ _ ((hmemL p).1 hp); omega
          rw [hN] at hrow
          obtain ⟨vo, vc, rfl⟩ := q_form hrow
          have hmemL' := Lib.hid hmemL
          have hriseL' := Lib.hid hriseL
          have hwl' := Lib.hid hwl
          have hI2' := Lib.hid hI2
          have hsub' := Lib.hid hsub
          have hrow' := Lib.hid hrow
          have hN' := Lib.hid hN
          clear hL hwl hmemL hriseL hI2 hsub hrow hN c0 c1 hg e1 e2 e3 e4 hI' KA
          go_wp2_with fail
          go_loopw [18] (fun jv wr => ∃ (j : Nat) (Ft' : Nat → Prop), j ≤ N ∧ jv = .int .i64 (j : Nat) ∧ KL s CH w4 (putM Mi a b) (putsP Ci (L.take j)) B ps pb pc pt Fs' Fb' Fc' Ft' C' wr ∧ wr.ownsRow w4.heap.size 61 2 (.slice vo N vc) N (ccells L)) (fun jv _ => N - (intOf jv).toNat)
          case atStart =>
            have hI2 := hI2'.out
            exact ⟨0, Ft, Nat.zero_le _, rfl, ⟨hI2.kp, hI2.tl.congr fun r c => by rw [List.take_zero]; exact putsP_nil Ci r c, hI2.dj, hI2.far, hI2.more⟩, hrow'.out⟩
          case round =>
            clear hI2' hrow'
            obtain ⟨j, Ft', hjN, rfl, hI3, hrow3⟩ := hrel
            obtain ⟨w7, hw7⟩ : ∃ V, V = wr := ⟨_, rfl⟩
            rw [← hw7] at hI3 hrow3 ⊢
            clear hw7
            by_cases hjt : j < N
            · have hji : (j : Int) < (N : Int) := by omega
              have hjb : (j : Int) + 1 ≤ 9223372036854775807 := by omega
              obtain ⟨g3, c3, eg3, _⟩ := hrow3.form (by omega)
              cases eg3
              have hg3 : g3 < w7.heap.size := (hrow3.lt g3 rfl).2
              obtain ⟨⟨r, c⟩, hx⟩ : ∃ p, L[j]? = some p := ⟨_, List.getElem?_eq_getElem (by rw [hN'.out]; exact hjt)⟩
              have hat := fun (k : Nat) (p : Nat × Nat) (hk : k < N) (h : L[k]? = some p) => (⟨(hrow3.cellAt (k * 2) (by omega)).trans (ccells_at h).1, (hrow3.cellAt (k * 2 + 1) (by omega)).trans (ccells_at h).2⟩ : w7.cell? ⟨g3, k * 2, none⟩ = some (.int .i64 (p.1 : Nat)) ∧ w7.cell? ⟨g3, k * 2 + 1, none⟩ = some (.int .i64 (p.2 : Nat)))
              obtain ⟨d0, d1⟩ := hat j (r, c) hjt hx
              dsimp only at d0 d1
              have hrc := hwl'.out r c ((hmemL'.out _).1 (List.mem_of_getElem? hx))
              have hnot : putsP Ci (L.take j) r c = false := by
                cases hp : putsP Ci (L.take j) r c
                · rfl
                · exfalso
                  rcases putsP_iff.1 hp with h | h
                  · have := (hmemL'.out (r, c)).1 (List.mem_of_getElem? hx)
                    unfold lsM at this
                    rw [Bool.and_eq_true, h] at this
                    simp at this
                  · obtain ⟨q, hq⟩ := List.getElem?_of_mem h
                    have hqj : q < j := by
                      have := (List.getElem?_eq_some_iff.1 hq).1
                      rw [List.length_take] at this
                      omega
                    rw [List.getElem?_take_of_lt hqj] at hq
                    exact lex_irr (rise_ltL hriseL'.out hq hx hqj)
              have htk : L.take (j + 1) = L.take j ++ [(r, c)] := by rw [List.take_add_one, hx]; rfl
              have SE := Lib.hid (fun (V : World) (hf : Far (fun _ => False) w7 V) => qset_yes (hI3.tl.still hf) r c hrc.1 hrc.2)
              rw [hnot] at SE
              have hat' := Lib.hid hat
              have hx' := Lib.hid hx
              have hI3' := Lib.hid hI3
              have hrow3' := Lib.hid hrow3
              have htk' := Lib.hid htk
              clear hat hx hI3 hrow3 htk hnot
              go_upto_region 21 with fail
              go_cut [19, 20] from 99 to 113 (fun v e wc => v = .bool true ∧ e = .int .i64 0 ∧ ∃ Ft2 : Nat → Prop, KL s CH w4 (putM Mi a b) (putsP Ci (L.take (j + 1))) B ps pb pc pt Fs' Fb' Fc' Ft2 C' wc ∧ wc.ownsRow w4.heap.size 61 2 (.slice (some ⟨g3, 0, none⟩) N vc) N (ccells L))
              case first =>
                go_region_with ((with_reducible refine (SE.out _ ((Far.refl (fun _ => False) w7).drew)).mono ?_); rintro e w8 ⟨rfl, Ft2, hX8, hm8⟩; have hX8' := Lib.hid hX8; have hm8' := Lib.hid hm8; clear hX8 hm8)
                all_goals
                  go_wp2_with fail
                  go_meet
                  have hI3 := hI3'.out
                  have hm8 := hm8'.out
                  have hd9 : Far (fun _ => False) w7 w7.drew := (Far.refl _ w7).drew
                  have hz7 := hI3.far.size
                  have hr9 := row_same hrow3'.out fun k _ hl => hd9.block k hl id
                  refine ⟨by first | rfl | trivial, by first | rfl | trivial, Ft2, ⟨(hI3.kp.still hd9).kept hm8.far fun k hk e => hI3.dj k hk e, hX8'.out.congr fun p q => by rw [htk'.out]; exact putsP_snoc Ci (L.take j) r c p q, fun k hk e => ?_, (hI3.far.trans hd9 fun _ _ h => h.elim).trans hm8.far fun k hk e => ?_, fun k hk => ?_⟩, row_same hr9 fun k hk hl => hm8.far.block k hl ?_⟩
                  · rcases hm8.more k e with h | h
                    · exact hI3.dj k hk h
                    · have := hI3.kp.lt hk
                      have h : w7.heap.size ≤ k := h
                      omega
                  · exact (hI3.more k (.inr e)).elim id fun h => by omega
                  · rcases hk with h | h
                    · exact hI3.more k (.inl h)
                    · rcases hm8.more k h with h | h
                      · exact hI3.more k (.inr h)
                      · exact .inr (Nat.le_trans hz7 h)
                  · obtain ⟨_, _, cs, hbk⟩ := own_type hrow3'.out hk
                    exact hI3.tl.notBk hbk (by decide) (by decide) (by decide)
              case rest =>
                obtain ⟨rfl, rfl, Ft2, hI4, hrow4⟩ := hcut
                obtain ⟨w8, hw8⟩ : ∃ V, V = wc := ⟨_, rfl⟩
                rw [← hw8] at hI4 hrow4 ⊢
                clear hw8
                have hat := fun (k : Nat) (p : Nat × Nat) (hk : k < N) (h : L[k]? = some p) => (⟨(hrow4.cellAt (k * 2) (by omega)).trans (ccells_at h).1, (hrow4.cellAt (k * 2 + 1) (by omega)).trans (ccells_at h).2⟩ : w8.cell? ⟨g3, k * 2, none⟩ = some (.int .i64 (p.1 : Nat)) ∧ w8.cell? ⟨g3, k * 2 + 1, none⟩ = some (.int .i64 (p.2 : Nat)))
                obtain ⟨d0, d1⟩ := hat j (r, c) hjt hx'.out
                dsimp only at d0 d1
                have hI4' := Lib.hid hI4
                have hrow4' := Lib.hid hrow4
                clear hat' hI3' hrow3' SE hI4 hrow4
                cases j with
                | zero =>
                  clear hat
                  have hz1 : decide ((0 : Int) < ((0 : Nat) : Int)) = false := by decide
                  go_upto_region 22 with fail
                  go_quiet (fail)
                  have hdr := Lib.hid ((Far.refl (fun _ => False) w8).drewN nq)
                  go_wp2_with fail
                  go_roundw
                  case rel =>
                    have hI4 := hI4'.out
                    have hd9 := hdr.out
                    exact ⟨1, Ft2, by omega, by go_num, ⟨hI4.kp.still hd9, hI4.tl.still hd9, hI4.dj, hI4.far.trans hd9 fun _ _ h => h.elim, hI4.more⟩, row_same hrow4'.out fun k _ hl => hd9.block k hl id⟩
                  case measure => simp only [intOf]; omega
                | succ p =>
                  obtain ⟨⟨r', c'⟩, hx2⟩ : ∃ q, L[p]? = some q := ⟨_, List.getElem?_eq_getElem (by rw [hN'.out]; omega)⟩
                  obtain ⟨d2, d3⟩ := hat p (r', c') (by omega) hx2
                  dsimp only at d2 d3
                  have hrc2 := hwl'.out r' c' ((hmemL'.out _).1 (List.mem_of_getElem? hx2))
                  have hlin := lin_lt (rise_ltL hriseL'.out hx2 hx'.out (by omega)) hrc2.2
                  obtain ⟨A1, hA1⟩ : ∃ z, r' * s = z := ⟨_, rfl⟩
                  obtain ⟨B1, hB1⟩ : ∃ z, r * s = z := ⟨_, rfl⟩
                  have hAb : A1 ≤ 1048576 := by rw [← hA1]; exact Nat.le_trans (Nat.mul_le_mul (Nat.le_of_lt (Nat.lt_of_lt_of_le hrc2.1 hs2)) hs2) (by decide)
                  have hBb : B1 ≤ 1048576 := by rw [← hB1]; exact Nat.le_trans (Nat.mul_le_mul (Nat.le_of_lt (Nat.lt_of_lt_of_le hrc.1 hs2)) hs2) (by decide)
                  have f1 : (r' : Int) * (s : Int) = (A1 : Int) := by rw [← hA1, Int.natCast_mul]
                  have f2 : (r : Int) * (s : Int) = (B1 : Int) := by rw [← hB1, Int.natCast_mul]
                  rw [hA1, hB1] at hlin
                  clear hA1 hB1
                  obtain ⟨A2, hA2⟩ : ∃ z, A1 + c' = z := ⟨_, rfl⟩
                  obtain ⟨B2, hB2⟩ : ∃ z, B1 + c = z := ⟨_, rfl⟩
                  rw [hA2, hB2] at hlin
                  have f3 : (A1 : Int) + (c' : Int) = (A2 : Int) := by omega
                  have f4 : (B1 : Int) + (c : Int) = (B2 : Int) := by omega
                  have w1' : IntKind.i64.wrap (A1 : Int) = (A1 : Int) := by rw [IntKind.wrap_i64]; omega
                  have w2' : IntKind.i64.wrap (B1 : Int) = (B1 : Int) := by rw [IntKind.wrap_i64]; omega
                  have w3' : IntKind.i64.wrap (A2 : Int) = (A2 : Int) := by rw [IntKind.wrap_i64]; omega
                  have w4' : IntKind.i64.wrap (B2 : Int) = (B2 : Int) := by rw [IntKind.wrap_i64]; omega
                  have f5 : (((p + 1 : Nat) : Int)) - 1 = (p : Int) := by omega
                  have w5' : IntKind.i64.wrap (p : Int) = (p : Int) := by rw [IntKind.wrap_i64]; omega
                  have f6 : ¬ (B2 : Int) ≤ (A2 : Int) := by omega
                  have f7 : decide ((B2 : Int) ≤ (A2 : Int)) = false := decide_eq_false f6
                  have hz1 : decide ((0 : Int) < ((p + 1 : Nat) : Int)) = true := by rw [decide_eq_true_eq]; omega
                  have hpN : (p : Int) < (N : Int) := by omega
                  clear hat hx2 hA2 hB2 hlin
                  go_upto_region 22 with fail
                  go_quiet (fail)
                  have hdr := Lib.hid ((Far.refl (fun _ => False) w8).drewN nq)
                  go_wp2_with fail
                  go_roundw
                  case rel =>
                    have hI4 := hI4'.out
                    have hd9 := hdr.out
                    exact ⟨p + 1 + 1, Ft2, by omega, by go_num, ⟨hI4.kp.still hd9, hI4.tl.still hd9, hI4.dj, hI4.far.trans hd9 fun _ _ h => h.elim, hI4.more⟩, row_same hrow4'.out fun k _ hl => hd9.block k hl id⟩
                  case measure => simp only [intOf]; omega
            · have hje : j = N := by omega
              subst hje
              have hji : ¬ (j : Int) < (j : Int) := by omega
              have hI3' := Lib.hid hI3
              clear hI3 hrow3
              go_wp2_with fail
              go_roundw
              case rel =>
                have hI3 := hI3'.out
                refine ⟨i + 1, Fs', Fb', Fc', Ft', C', by have := hlt'.out; omega, by go_num, ⟨by rw [hst'.out]; exact hI3.kp, hI3.tl.congr fun r c => ?_, hI3.dj, hI3.far, hI3.more⟩⟩
                rw [List.take_of_length_le (by rw [hN'.out]; exact Nat.le_refl _), Bool.eq_iff_iff, putsP_iff, hmemL'.out]
                unfold lsM
                rw [Bool.and_eq_true, Bool.not_eq_true']
                dsimp only
                have h1 := hsub'.out r c
                cases h2 : C' r c <;> cases h3 : Ci r c <;> simp_all
              case measure => have := hlt'.out; simp only [intOf]; omega
      · have hie : i = m := by omega
        subst hie
        have hii : ¬ (i : Int) < (i : Int) := by omega
        rw [hM'.out] at hI
        obtain ⟨q, hq⟩ : ∃ q : Nat, (q : Int) = max 0 (min y (i : Int)) := ⟨(max 0 (min y (i : Int))).toNat, by omega⟩
        have hqi : q ≤ i := by omega
        have hI' := Lib.hid hI
        have hfa : Far (fun _ => False) w wi := hfw4'.out.trans hI.far fun k hk e => by have := hCHlo'.out k e; omega
        have ho5 := Lib.hid (ho4'.out.kept hI.far fun k hk e => hom'.out k hk e)
        have hm5 := Lib.hid (hm4'.out.kept hI.far fun k hk e => hmm'.out k hk e)
        have hfa' := Lib.hid hfa
        clear hI hfa hstep' hz40'
        go_upto_region 25 with fail
        rw [← hq]
        have hq1 : (q : Int) ≤ (i : Int) := by omega
        have hq2 : (q : Int) ≤ (cap : Int) := by omega
        have hq3 : (i : Int) ≤ (cap : Int) := by omega
        have hq0 : (0 : Int) ≤ (q : Int) := by omega
        have wq : IntKind.i64.wrap (q : Int) = (q : Int) := by rw [IntKind.wrap_i64]; omega
        clear hq
        obtain ⟨N1, hN1⟩ : ∃ N1, foldR05 s (fun k => R (q + k)) (fun k => C (q + k)) (i - q) = N1 := ⟨_, rfl⟩
        obtain ⟨N2, hN2⟩ : ∃ N2, foldR05 s R C q = N2 := ⟨_, rfl⟩
        have hsplit : ∀ r c, M r c = joinM (joinM zeroM N1) N2 r c := fun r c => by
          rw [← hM'.out, ← hN1, ← hN2, Bool.eq_iff_iff]
          unfold joinM
          simp only [Bool.or_eq_true, fold5_iff (show i ≤ 300 by omega), fold5_iff (show q ≤ 300 by omega), fold5_iff (show i - q ≤ 300 by omega)]
          constructor
          · rintro ⟨k, hk, e1, e2⟩
            by_cases hkq : k < q
            · exact .inr ⟨k, hkq, e1, e2⟩
            · exact .inl (.inr ⟨k - q, by omega, by rw [show q + (k - q) = k by omega]; exact e1, by rw [show q + (k - q) = k by omega]; exact e2⟩)
          · rintro ((h | ⟨k, hk, e1, e2⟩) | ⟨k, hk, e1, e2⟩)
            · cases h
            · exact ⟨q + k, by omega, e1, e2⟩
            · exact ⟨k, by omega, e1, e2⟩
        have hsplit' := Lib.hid hsplit
        have hTi := Lib.hid (hT'.out.still hfa'.out)
        have hto : ∀ k, KF Bo Gs Gb Gc k → k ≠ 0 := fun k hk e => by have := hloo2.out k hk; have := hT'.out.lt; omega
        have hzi := hI'.out.far.size
        have hko : ∀ k, (KF B Fs Fb Fc k ∨ Ft k) → ¬ KF Bo Gs Gb Gc k := fun k hk e => (hI'.out.more k hk).elim (hom'.out k e) fun h => by have := ho4'.out.lt e; omega
        have hN2' := Lib.hid hN2
        have hto' := Lib.hid hto
        have hko' := Lib.hid hko
        have hN1' := Lib.hid hN1
        clear hsplit hto hko hzi hN1 hN2
        go_cut [10, 21] from 160 to 169 (fun e v wc => e = .int .i64 0 ∧ ∃ Ba, v = .pointer (some ⟨Ba, 0, none⟩) ∧ ∃ Fa co' Gs' Gb' Gc' C1, Kp wc Bo po qo co' Gs' Gb' Gc' s (joinM zeroM N1) C1 ∧ Mx wc Ba Fa s (lsM C1 zeroM) ∧ (∀ k, Fa k → ¬ KF Bo Gs' Gb' Gc' k) ∧ (∀ k, Fa k → KF Bo Gs Gb Gc k ∨ wi.heap.size ≤ k) ∧ Mv wi wc (KF Bo Gs Gb Gc) (KF Bo Gs' Gb' Gc'))
        case first =>
          by_cases hqc : q = cap
          · have hqc2 : (cap : Int) = (q : Int) := by omega
            have FN := fold05_any x s hs'.out ao 0 0 (fun k => R (q + k)) (fun k => C (q + k)) (by omega) wi (fun h => absurd h (Nat.lt_irrefl _))
            rw [show (0 : Nat) = i - q by omega, hN1'.out, show i - q = 0 by omega] at FN
            go_wp2_with fail
            refine FN.mono ?_
            rintro e w8 ⟨Bn, rfl, Fn, hn8, hlo8, hf8⟩
            have JN := kjoin_yes (ho5.out.still hf8) hn8 (fun k h1 h2 => by have := ho5.out.lt h2; have := hlo8 k h1; omega) (hTi.out.still hf8) hto'.out
            have hf8' := Lib.hid hf8
            clear FN hn8 hlo8 hf8
            go_wp2_with fail
            refine JN.mono ?_
            rintro e w9 ⟨Ba, rfl, Fa, co', Gs', Gb', Gc', C1, k1, k2, k3, k4, k5, k6⟩
            have k1' := Lib.hid k1
            have k3' := Lib.hid k3
            have k4' := Lib.hid k4
            have k5' := Lib.hid k5
            have k6' := Lib.hid k6
            clear JN k1 k2 k3 k4 k5 k6
            go_wp2_with fail
            go_meet
            exact ⟨rfl, Ba, rfl, Fa, co', Gs', Gb', Gc', C1, k1'.out, k3'.out, k4'.out, fun k hk => (k5'.out k hk).imp id fun h => Nat.le_trans hf8'.out.size h, ((Mv.still hf8'.out).trans k6'.out)⟩
          · have hqc2 : ¬ (cap : Int) = (q : Int) := by omega
            have hqc3 : ¬ cap = q := by omega
            have FN := fold05_any x s hs'.out (Option.map (fun x => x.add (q * 2)) ao) (i - q) (cap - q) (fun k => R (q + k)) (fun k => C (q + k)) (by omega) wi (fun h9 => by
              obtain ⟨g, off, e, hg, hc⟩ := (hC'.out.move hfa'.out) (by omega)
              refine ⟨g, off + q * 2, by rw [e]; simp [Addr.add], hg, fun k hk => ?_⟩
              have := hc (q + k) (by omega)
              rw [show off + q * 2 + k * 2 = off + (q + k) * 2 by omega]
              exact this)
            rw [hN1'.out] at FN
            go_wp2_with fail
            refine FN.mono ?_
            rintro e w8 ⟨Bn, rfl, Fn, hn8, hlo8, hf8⟩
            have JN := kjoin_yes (ho5.out.still hf8) hn8 (fun k h1 h2 => by have := ho5.out.lt h2; have := hlo8 k h1; omega) (hTi.out.still hf8) hto'.out
            have hf8' := Lib.hid hf8
            clear FN hn8 hlo8 hf8
            go_wp2_with fail
            refine JN.mono ?_
            rintro e w9 ⟨Ba, rfl, Fa, co', Gs', Gb', Gc', C1, k1, k2, k3, k4, k5, k6⟩
            have k1' := Lib.hid k1
            have k3' := Lib.hid k3
            have k4' := Lib.hid k4
            have k5' := Lib.hid k5
            have k6' := Lib.hid k6
            clear JN k1 k2 k3 k4 k5 k6
            go_wp2_with fail
            go_meet
            exact ⟨rfl, Ba, rfl, Fa, co', Gs', Gb', Gc', C1, k1'.out, k3'.out, k4'.out, fun k hk => (k5'.out k hk).imp id fun h => Nat.le_trans hf8'.out.size h, ((Mv.still hf8'.out).trans k6'.out)⟩
        case rest =>
          obtain ⟨rfl, Ba, rfl, Fa, co1, Gs1, Gb1, Gc1, C1, hk1, ha1, hda1, hfa1, hmv1⟩ := hcut
          obtain ⟨w5, hw5⟩ : ∃ V, V = wc := ⟨_, rfl⟩
          rw [← hw5] at hk1 ha1 hmv1 ⊢
          clear hw5
          have hkp5 := Lib.hid (hI'.out.kp.kept hmv1.far fun k hk e => hko'.out k (.inl hk) e)
          have htl5 := Lib.hid (hI'.out.tl.kept hmv1.far fun k hk e => hko'.out k (.inr hk) e)
          have hms5 := Lib.hid (hm5.out.kept hmv1.far fun k hk e => hlm2.out k hk e)
          have hof5 := Lib.hid (show Far (fun _ => False) w w5 from hfa'.out.trans hmv1.far fun k hk e => by have := hloo2.out k e; omega)
          have hzi5 := Lib.hid hmv1.far.size
          have hkm : ∀ k, (KF B Fs Fb Fc k ∨ Ft k ∨ Fm k) → k < wi.heap.size ∧ ¬ KF Bo Gs Gb Gc k := fun k hk => by
            rcases hk with h | h | h
            · exact ⟨hI'.out.kp.lt h, hko'.out k (.inl h)⟩
            · exact ⟨hI'.out.tl.lt k h, hko'.out k (.inr h)⟩
            · exact ⟨hm5.out.lt k h, hlm2.out k h⟩
          have hk1o : ∀ k, (KF B Fs Fb Fc k ∨ Ft k ∨ Fm k) → ¬ KF Bo Gs1 Gb1 Gc1 k := fun k hk e => by
            have h9 := hkm k hk
            rcases hmv1.more k e with h | h
            · exact h9.2 h
            · omega
          have hka : ∀ k, (KF B Fs Fb Fc k ∨ Ft k ∨ Fm k) → ¬ Fa k := fun k hk e => by
            have h9 := hkm k hk
            rcases hfa1 k e with h | h
            · exact h9.2 h
            · omega
          have ho1w : ∀ k, KF Bo Gs1 Gb1 Gc1 k → w.heap.size ≤ k := fun k hk => (hmv1.more k hk).elim (hloo2.out k) fun h => Nat.le_trans hfa'.out.size h
          have haw : ∀ k, Fa k → w.heap.size ≤ k := fun k hk => (hfa1 k hk).elim (hloo2.out k) fun h => Nat.le_trans hfa'.out.size h
          have hwif := hmv1.far
          have hclk := Lib.hid hI'.out.kp.clo
          have hk1' := Lib.hid hk1
          have ha1' := Lib.hid ha1
          have hda1' := Lib.hid hda1
          have hk1o' := Lib.hid hk1o
          have hka' := Lib.hid hka
          have ho1w' := Lib.hid ho1w
          have haw' := Lib.hid haw
          have FN := fold05_any x s hs'.out ao q cap R C (by omega) w5 (show Cls w5 ao q R C from fun hq9 => by
            obtain ⟨g, off, e, hg, hc⟩ := (hC'.out.move hof5.out) (by omega)
            exact ⟨g, off, e, hg, fun k hk => hc k (by omega)⟩)
          rw [hN2'.out] at FN
          clear hk1 ha1 hda1 hfa1 hmv1 hkm hk1o hka ho1w haw hwif hI' hfa'
          go_wp2_with fail
          refine FN.mono ?_
          rintro e w6 ⟨Bn, rfl, Fn, hn6, hlo6, hf6⟩
          have JN := kjoin_yes (hk1'.out.still hf6) hn6 (fun k h1 h2 => by have := hk1'.out.lt h2; have := hlo6 k h1; omega) (hT'.out.still (hof5.out.then hf6)) (fun k hk e => by have := ho1w'.out k hk; have := hT'.out.lt; omega)
          have hkp6 := Lib.hid (hkp5.out.still hf6)
          have htl6 := Lib.hid (htl5.out.still hf6)
          have hms6 := Lib.hid (hms5.out.still hf6)
          have ha6 := Lib.hid (ha1'.out.still hf6)
          have hof6 := Lib.hid (hof5.out.then hf6)
          clear FN hn6 hlo6 hf6 hkp5 htl5 hms5 hof5
          go_wp2_with fail
          refine JN.mono ?_
          rintro e w7 ⟨Bb, rfl, Fb2, co2, Gs2, Gb2, Gc2, C2, k1, k2, k3, k4, k5, k6⟩
          have hkp7 := Lib.hid (hkp6.out.kept k6.far fun k hk e => hk1o'.out k (.inl hk) e)
          have htl7 := Lib.hid (htl6.out.kept k6.far fun k hk e => hk1o'.out k (.inr (.inl hk)) e)
          have hms7 := hms6.out.kept k6.far fun k hk e => hk1o'.out k (.inr (.inr hk)) e
          have ha7 := Lib.hid (ha6.out.kept k6.far fun k hk e => hda1'.out k hk e)
          have hof7 := hof6.out.trans k6.far fun k hk e => by have := ho1w'.out k e; omega
          have hao2 := Lib.hid (show ∀ k, KF Bo Gs2 Gb2 Gc2 k → ¬ Fa k from fun k h1 h2 => (k6.more k h1).elim (hda1'.out k h2) fun h => by have := ha6.out.lt k h2; omega)
          have CL := rclosure_yes hms7 (hT'.out.still hof7)
          have hko7 := Lib.hid k1
          have hb7 := Lib.hid k3
          have hsub2 := Lib.hid k2
          have hms7' := Lib.hid hms7
          have hof7' := Lib.hid hof7
          clear JN k1 k2 k3 k4 k5 k6 hkp6 htl6 hms6 ha6 hof6 hms7 hof7
          go_wp2_with fail
          refine CL.mono ?_
          rintro e w8 ⟨Bc, rfl, Fcc, D, hclD, hc8, hlo8, hf8⟩
          have ha7lt := Lib.hid ha7.out.lt
          have kp_1 := Lib.hid (hkp7.out.still hf8)
          clear hkp7
          have tl_1 := Lib.hid (htl7.out.still hf8)
          clear htl7
          have ms_1 := Lib.hid (hms7'.out.still hf8)
          clear hms7'
          have am_1 := Lib.hid (ha7.out.still hf8)
          clear ha7
          have ko_1 := Lib.hid (hko7.out.still hf8)
          clear hko7
          have bm_1 := Lib.hid (hb7.out.still hf8)
          clear hb7
          have hfw_2 := Lib.hid (hof7'.out.then hf8)
          clear hof7'
          have hcm := Lib.hid hc8
          have hac := Lib.hid (show ∀ k, Fcc k → ¬ Fa k from fun k h1 h2 => by have := hlo8 k h1; have := ha7lt.out k h2; omega)
          have eC2 : C2 = D := clo_fun (ko_1.out.clo.congr hsplit'.out fun _ _ => rfl) hclD
          have eCi : Ci = D := clo_fun hclk.out hclD
          have hclD' := Lib.hid hclD
          clear CL hclD hc8 hlo8 hf8
          subst eC2
          subst eCi
          have hC1s := hsub2.out
          obtain ⟨X1, hX1⟩ : ∃ X, numM (lsM C1 zeroM) = X := ⟨_, rfl⟩
          obtain ⟨X2, hX2⟩ : ∃ X, numM (lsM Ci C1) = X := ⟨_, rfl⟩
          obtain ⟨X3, hX3⟩ : ∃ X, numM Ci = X := ⟨_, rfl⟩
          have hX3b : X3 ≤ 1048576 := hX3 ▸ numM_le Ci
          have hsum : X1 + X2 = X3 := by
            have h1 : numM (lsM C1 zeroM) = numM C1 := numM_congr fun r c => by unfold lsM zeroM; simp
            have h2 := numM_diff hC1s
            omega
          have hsumi : (X1 : Int) + (X2 : Int) = (X3 : Int) := by omega
          have wX3 : IntKind.i64.wrap (X3 : Int) = (X3 : Int) := by rw [IntKind.wrap_i64]; omega
          have hab : ∀ r c, joinM (lsM C1 zeroM) (lsM Ci C1) r c = Ci r c := fun r c => by
            have h1 := hC1s r c
            unfold joinM lsM zeroM
            cases h2 : Ci r c <;> cases h3 : C1 r c <;> simp_all
          have hab' := Lib.hid hab
          have LA := qlen_any am_1.out
          rw [hX1] at LA
          have hX2' := Lib.hid hX2
          have hX3' := Lib.hid hX3
          clear hX1 hX2 hX3 hsum hC1s hab
          go_wp2_with fail
          refine LA.mono ?_
          rintro e v9 ⟨rfl, hfz⟩
          have kp_3 := Lib.hid (kp_1.out.still hfz)
          clear kp_1
          have tl_3 := Lib.hid (tl_1.out.still hfz)
          clear tl_1
          have ms_3 := Lib.hid (ms_1.out.still hfz)
          clear ms_1
          have am_3 := Lib.hid (am_1.out.still hfz)
          clear am_1
          have ko_3 := Lib.hid (ko_1.out.still hfz)
          clear ko_1
          have bm_3 := Lib.hid (bm_1.out.still hfz)
          clear bm_1
          have cm_3 := Lib.hid (hcm.out.still hfz)
          clear hcm
          have hfw_4 := Lib.hid (hfw_2.out.then hfz)
          clear hfw_2
          have LB := qlen_any bm_3.out
          rw [hX2'.out] at LB
          clear LA hfz
          go_wp2_with fail
          refine LB.mono ?_
          rintro e v10 ⟨rfl, hfz⟩
          have kp_5 := Lib.hid (kp_3.out.still hfz)
          clear kp_3
          have tl_5 := Lib.hid (tl_3.out.still hfz)
          clear tl_3
          have ms_5 := Lib.hid (ms_3.out.still hfz)
          clear ms_3
          have am_5 := Lib.hid (am_3.out.still hfz)
          clear am_3
          have ko_5 := Lib.hid (ko_3.out.still hfz)
          clear ko_3
          have bm_5 := Lib.hid (bm_3.out.still hfz)
          clear bm_3
          have cm_5 := Lib.hid (cm_3.out.still hfz)
          clear cm_3
          have hfw_6 := Lib.hid (hfw_4.out.then hfz)
          clear hfw_4
          have JN := qjoin_any am_5.out bm_5.out
          clear LB hfz
          go_wp2_with fail
          refine JN.mono ?_
          rintro e vj ⟨vb, rfl, hvb, Fa', hXa, hmj⟩
          have hkpj := Lib.hid (kp_5.out.kept hmj.far fun k hk e => hka'.out k (.inl hk) e)
          clear kp_5
          have htlj := Lib.hid (tl_5.out.kept hmj.far fun k hk e => hka'.out k (.inr (.inl hk)) e)
          clear tl_5
          have hmsj := Lib.hid (ms_5.out.kept hmj.far fun k hk e => hka'.out k (.inr (.inr hk)) e)
          clear ms_5
          have hkoj := Lib.hid (ko_5.out.kept hmj.far fun k hk e => hao2.out k hk e)
          clear ko_5
          have hcmj := Lib.hid (cm_5.out.kept hmj.far fun k hk e => hac.out k hk e)
          clear cm_5
          have hamj := Lib.hid (hXa.congr fun r c => (hab'.out r c).symm)
          clear am_5 bm_5
          have hfj := Lib.hid (hfw_6.out.trans hmj.far fun k hk e => by have := haw'.out k e; omega)
          clear hfw_6
          have KX := kmat_any hkpj.out
          clear JN hvb hXa hmj
          go_wp2_with fail
          refine KX.mono ?_
          rintro e vx ⟨Bx, rfl, Fx, hx, hlox, hfz⟩
          have kp_8 := Lib.hid (hkpj.out.still hfz)
          clear hkpj
          have tl_8 := Lib.hid (htlj.out.still hfz)
          clear htlj
          have ms_8 := Lib.hid (hmsj.out.still hfz)
          clear hmsj
          have am_8 := Lib.hid (hamj.out.still hfz)
          clear hamj
          have ko_8 := Lib.hid (hkoj.out.still hfz)
          clear hkoj
          have cm_8 := Lib.hid (hcmj.out.still hfz)
          clear hcmj
          have hfw_9 := Lib.hid (hfj.out.then hfz)
          clear hfj
          have hxm := Lib.hid hx
          have KY := kmat_any ko_8.out
          clear KX hx hlox hfz
          go_wp2_with fail
          refine KY.mono ?_
          rintro e vy ⟨By, rfl, Fy, hy, hloy, hfz⟩
          have kp_10 := Lib.hid (kp_8.out.still hfz)
          clear kp_8
          have tl_10 := Lib.hid (tl_8.out.still hfz)
          clear tl_8
          have ms_10 := Lib.hid (ms_8.out.still hfz)
          clear ms_8
          have am_10 := Lib.hid (am_8.out.still hfz)
          clear am_8
          have ko_10 := Lib.hid (ko_8.out.still hfz)
          clear ko_8
          have cm_10 := Lib.hid (cm_8.out.still hfz)
          clear cm_8
          have xm_10 := Lib.hid (hxm.out.still hfz)
          clear hxm
          have hfw_11 := Lib.hid (hfw_9.out.then hfz)
          clear hfw_9
          have hym := Lib.hid hy
          have LC := qlen_any cm_10.out
          rw [hX3'.out] at LC
          clear KY hy hloy hfz
          go_wp2_with fail
          refine LC.mono ?_
          rintro e v11 ⟨rfl, hfz⟩
          have kp_12 := Lib.hid (kp_10.out.still hfz)
          clear kp_10
          have tl_12 := Lib.hid (tl_10.out.still hfz)
          clear tl_10
          have ms_12 := Lib.hid (ms_10.out.still hfz)
          clear ms_10
          have am_12 := Lib.hid (am_10.out.still hfz)
          clear am_10
          have ko_12 := Lib.hid (ko_10.out.still hfz)
          clear ko_10
          have cm_12 := Lib.hid (cm_10.out.still hfz)
          clear cm_10
          have xm_12 := Lib.hid (xm_10.out.still hfz)
          clear xm_10
          have ym_12 := Lib.hid (hym.out.still hfz)
          clear hym
          have hfw_13 := Lib.hid (hfw_11.out.then hfz)
          clear hfw_11
          clear LC hfz
          have SA := qsame_any am_12.out cm_12.out
          go_wp2_with fail
          refine SA.mono ?_
          rintro e v12 ⟨vs, rfl, hvs, hfz⟩
          obtain rfl : vs = true := hvs.2 ⟨by trivial, (by intros; first | trivial | rfl)⟩
          clear am_12
          have kp_14 := Lib.hid (kp_12.out.still hfz)
          clear kp_12
          have tl_14 := Lib.hid (tl_12.out.still hfz)
          clear tl_12
          have ms_14 := Lib.hid (ms_12.out.still hfz)
          clear ms_12
          have ko_14 := Lib.hid (ko_12.out.still hfz)
          clear ko_12
          have cm_14 := Lib.hid (cm_12.out.still hfz)
          clear cm_12
          have xm_14 := Lib.hid (xm_12.out.still hfz)
          clear xm_12
          have ym_14 := Lib.hid (ym_12.out.still hfz)
          clear ym_12
          have hfw_15 := Lib.hid (hfw_13.out.then hfz)
          clear hfw_13
          clear SA hvs hfz
          have SA := qsame_any tl_14.out cm_14.out
          go_wp2_with fail
          refine SA.mono ?_
          rintro e v13 ⟨vs, rfl, hvs, hfz⟩
          obtain rfl : vs = true := hvs.2 ⟨by trivial, (by intros; first | trivial | rfl)⟩
          clear tl_14
          have kp_16 := Lib.hid (kp_14.out.still hfz)
          clear kp_14
          have ms_16 := Lib.hid (ms_14.out.still hfz)
          clear ms_14
          have ko_16 := Lib.hid (ko_14.out.still hfz)
          clear ko_14
          have cm_16 := Lib.hid (cm_14.out.still hfz)
          clear cm_14
          have xm_16 := Lib.hid (xm_14.out.still hfz)
          clear xm_14
          have ym_16 := Lib.hid (ym_14.out.still hfz)
          clear ym_14
          have hfw_17 := Lib.hid (hfw_15.out.then hfz)
          clear hfw_15
          clear SA hvs hfz
          have SA := qsame_any xm_16.out cm_16.out
          go_wp2_with fail
          refine SA.mono ?_
          rintro e v14 ⟨vs, rfl, hvs, hfz⟩
          obtain rfl : vs = true := hvs.2 ⟨by trivial, (by intros; first | trivial | rfl)⟩
          clear xm_16
          have kp_18 := Lib.hid (kp_16.out.still hfz)
          clear kp_16
          have ms_18 := Lib.hid (ms_16.out.still hfz)
          clear ms_16
          have ko_18 := Lib.hid (ko_16.out.still hfz)
          clear ko_16
          have cm_18 := Lib.hid (cm_16.out.still hfz)
          clear cm_16
          have ym_18 := Lib.hid (ym_16.out.still hfz)
          clear ym_16
          have hfw_19 := Lib.hid (hfw_17.out.then hfz)
          clear hfw_17
          clear SA hvs hfz
          have SA := qsame_any ym_18.out cm_18.out
          go_wp2_with fail
          refine SA.mono ?_
          rintro e v15 ⟨vs, rfl, hvs, hfz⟩
          obtain rfl : vs = true := hvs.2 ⟨by trivial, (by intros; first | trivial | rfl)⟩
          clear ym_18
          have kp_20 := Lib.hid (kp_18.out.still hfz)
          clear kp_18
          have ms_20 := Lib.hid (ms_18.out.still hfz)
          clear ms_18
          have ko_20 := Lib.hid (ko_18.out.still hfz)
          clear ko_18
          have cm_20 := Lib.hid (cm_18.out.still hfz)
          clear cm_18
          have hfw_21 := Lib.hid (hfw_19.out.then hfz)
          clear hfw_19
          clear SA hvs hfz
          have KS := ksteps_any kp_20.out
          go_wp2_with fail
          refine KS.mono ?_
          rintro e vk ⟨Bk9, rfl, Fk9, hk9, hlok9, hfz⟩
          have kp_22 := Lib.hid (kp_20.out.still hfz)
          clear kp_20
          have ms_22 := Lib.hid (ms_20.out.still hfz)
          clear ms_20
          have ko_22 := Lib.hid (ko_20.out.still hfz)
          clear ko_20
          have cm_22 := Lib.hid (cm_20.out.still hfz)
          clear cm_20
          have hfw_23 := Lib.hid (hfw_21.out.then hfz)
          clear hfw_21
          have hkm9 := Lib.hid hk9
          clear KS hk9 hlok9 hfz
          have SA := qsame_any hkm9.out ms_22.out
          go_wp2_with fail
          refine SA.mono ?_
          rintro e v16 ⟨vs, rfl, hvs, hfz⟩
          obtain rfl : vs = true := hvs.2 ⟨by trivial, (by intros; first | trivial | rfl)⟩
          clear hkm9
          have kp_24 := Lib.hid (kp_22.out.still hfz)
          clear kp_22
          have ms_24 := Lib.hid (ms_22.out.still hfz)
          clear ms_22
          have ko_24 := Lib.hid (ko_22.out.still hfz)
          clear ko_22
          have cm_24 := Lib.hid (cm_22.out.still hfz)
          clear cm_22
          have hfw_25 := Lib.hid (hfw_23.out.then hfz)
          clear hfw_23
          clear SA hvs hfz
          have KS := ksteps_any ko_24.out
          go_wp2_with fail
          refine KS.mono ?_
          rintro e vo9 ⟨Bo9, rfl, Fo9, ho9, hloo9, hfz⟩
          have kp_26 := Lib.hid (kp_24.out.still hfz)
          clear kp_24
          have ms_26 := Lib.hid (ms_24.out.still hfz)
          clear ms_24
          have ko_26 := Lib.hid (ko_24.out.still hfz)
          clear ko_24
          have cm_26 := Lib.hid (cm_24.out.still hfz)
          clear cm_24
          have hfw_27 := Lib.hid (hfw_25.out.then hfz)
          clear hfw_25
          have hom9 := Lib.hid ho9
          clear KS ho9 hloo9 hfz
          have SA := qsame_any hom9.out ms_26.out
          go_wp2_with fail
          refine SA.mono ?_
          rintro e v17 ⟨vs, rfl, hvs, hfz⟩
          obtain rfl : vs = true := hvs.2 ⟨by trivial, fun r c => (hsplit'.out r c).symm⟩
          clear hom9
          clear ms_26
          have kp_28 := Lib.hid (kp_26.out.still hfz)
          clear kp_26
          have ko_28 := Lib.hid (ko_26.out.still hfz)
          clear ko_26
          have cm_28 := Lib.hid (cm_26.out.still hfz)
          clear cm_26
          have hfw_29 := Lib.hid (hfw_27.out.then hfz)
          clear hfw_27
          clear SA hvs hfz
          have KL9 := klen_any kp_28.out
          rw [hX3'.out] at KL9
          go_wp2_with fail
          refine KL9.mono ?_
          rintro e v18 ⟨rfl, hfz⟩
          have kp_30 := Lib.hid (kp_28.out.still hfz)
          clear kp_28
          have ko_30 := Lib.hid (ko_28.out.still hfz)
          clear ko_28
          have cm_30 := Lib.hid (cm_28.out.still hfz)
          clear cm_28
          have hfw_31 := Lib.hid (hfw_29.out.then hfz)
          clear hfw_29
          clear KL9 hfz kp_30
          have LC := qlen_any cm_30.out
          rw [hX3'.out] at LC
          go_wp2_with fail
          refine LC.mono ?_
          rintro e v19 ⟨rfl, hfz⟩
          have ko_32 := Lib.hid (ko_30.out.still hfz)
          clear ko_30
          have cm_32 := Lib.hid (cm_30.out.still hfz)
          clear cm_30
          have hfw_33 := Lib.hid (hfw_31.out.then hfz)
          clear hfw_31
          clear LC hfz
          have KL9 := klen_any ko_32.out
          rw [hX3'.out] at KL9
          go_wp2_with fail
          refine KL9.mono ?_
          rintro e v20 ⟨rfl, hfz⟩
          have ko_34 := Lib.hid (ko_32.out.still hfz)
          clear ko_32
          have cm_34 := Lib.hid (cm_32.out.still hfz)
          clear cm_32
          have hfw_35 := Lib.hid (hfw_33.out.then hfz)
          clear hfw_33
          clear KL9 hfz ko_34
          have LC := qlen_any cm_34.out
          rw [hX3'.out] at LC
          go_wp2_with fail
          refine LC.mono ?_
          rintro e v21 ⟨rfl, hfz⟩
          have cm_36 := Lib.hid (cm_34.out.still hfz)
          clear cm_34
          have hfw_37 := Lib.hid (hfw_35.out.then hfz)
          clear hfw_35
          clear LC hfz
          have AW := awake05_any _ (hT'.out.still hfw_37.out)
          go_wp2_with fail
          refine AW.mono ?_
          rintro e vz ⟨rfl, hfz⟩
          have hfw_38 := Lib.hid (hfw_37.out.then hfz)
          clear hfw_37
          clear AW hfz
          go_wp2_with fail
          go_ret
          exact ⟨rfl, hfw_38.out⟩
end
end Go.Proofs.YtjolkhiggcmoiaaDoor
