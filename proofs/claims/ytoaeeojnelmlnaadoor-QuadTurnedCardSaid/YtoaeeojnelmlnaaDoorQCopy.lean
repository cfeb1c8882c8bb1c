/-
  Copy, Turn, Less, Join: of the cells.
-/
import Derived.Test.YtoaeeojnelmlnaaDoorQMade
import Derived.Shelf.Abstract
namespace Go.Proofs.YtoaeeojnelmlnaaDoor
open Go.RowKit Go.Shelf
set_option linter.unusedVariables false
set_option linter.unusedSimpArgs false
theorem cell_sub (M : Nat → Nat → Bool) (r c : Nat) : sub M (r / 64) (c / 64) (r % 64) (c % 64) = M r c := by unfold sub; rw [Nat.div_add_mod, Nat.div_add_mod]
theorem place_of {M : Nat → Nat → Bool} {side r c : Nat} (hw : ∀ r c, M r c = true → r < side ∧ c < side) (h : M r c = true) : (r / 64, c / 64) ∈ placesL M side := by
  have := hw r c h
  refine mem_placesL.2 ⟨by unfold lns; simp; omega, by unfold lns; simp; omega, nzB_iff.2 ⟨r % 64, c % 64, Nat.mod_lt _ (by decide), Nat.mod_lt _ (by decide), by rw [cell_sub]; exact h⟩⟩
theorem fold_copy {M : Nat → Nat → Bool} {side : Nat} (hw : ∀ r c, M r c = true → r < side ∧ c < side) : ∀ r c, M r c = foldP id (fun p => blk (sub M p.1 p.2)) (placesL M side) r c := fun r c => by
  rw [Bool.eq_iff_iff, foldP_iff]
  constructor
  · intro h
    exact ⟨_, place_of hw h, rfl, rfl, by rw [bt_blk _ _ _ (Nat.mod_lt _ (by decide)), cell_sub]; exact h⟩
  · rintro ⟨⟨a, b⟩, _, h1, h2, h3⟩
    simp only [id] at h1 h2
    subst h1 h2
    rw [bt_blk _ _ _ (Nat.mod_lt _ (by decide)), cell_sub] at h3
    exact h3
/-- Turned over. -/
def tnM (M : Nat → Nat → Bool) : Nat → Nat → Bool := fun r c => M c r
theorem fold_turn {M : Nat → Nat → Bool} {side : Nat} (hw : ∀ r c, M r c = true → r < side ∧ c < side) : ∀ r c, tnM M r c = foldP (fun p => (p.2, p.1)) (fun p => blk fun r c => bt (blk (sub M p.1 p.2)) c r) (placesL M side) r c := fun r c => by
  rw [Bool.eq_iff_iff, foldP_iff]
  unfold tnM
  constructor
  · intro h
    exact ⟨_, place_of hw h, rfl, rfl, by rw [bt_blk _ _ _ (Nat.mod_lt _ (by decide)), bt_blk _ _ _ (Nat.mod_lt _ (by decide)), cell_sub]; exact h⟩
  · rintro ⟨⟨a, b⟩, _, h1, h2, h3⟩
    simp only at h1 h2
    subst h1 h2
    rw [bt_blk _ _ _ (Nat.mod_lt _ (by decide)), bt_blk _ _ _ (Nat.mod_lt _ (by decide)), cell_sub] at h3
    exact h3
/-- Less another one's. -/
def lsM (M O : Nat → Nat → Bool) : Nat → Nat → Bool := fun r c => M r c && !O r c
theorem bt_less {S O : Nat → Nat → Bool} {r c : Nat} (hr : r < 64) (hc : c < 64) : bt (fun k => less (blk S k) (blk O k)) r c = (S r c && !O r c) := by
  show (less (blk S r) (blk O r)).testBit c = _
  rw [less_bit _ _ _ (blk_wf S r hr), blk_bit _ _ _ hc, blk_bit _ _ _ hc]
theorem fold_less {M O : Nat → Nat → Bool} {side : Nat} (hw : ∀ r c, M r c = true → r < side ∧ c < side) : ∀ r c, lsM M O r c = foldP id (fun p => fun k => less (blk (sub M p.1 p.2) k) (blk (sub O p.1 p.2) k)) (placesL M side) r c := fun r c => by
  rw [Bool.eq_iff_iff, foldP_iff]
  unfold lsM
  constructor
  · intro h
    have hm : M r c = true := by rw [Bool.and_eq_true] at h; exact h.1
    exact ⟨_, place_of hw hm, rfl, rfl, by rw [bt_less (Nat.mod_lt _ (by decide)) (Nat.mod_lt _ (by decide)), cell_sub, cell_sub]; exact h⟩
  · rintro ⟨⟨a, b⟩, _, h1, h2, h3⟩
    simp only [id] at h1 h2
    subst h1 h2
    rw [bt_less (Nat.mod_lt _ (by decide)) (Nat.mod_lt _ (by decide)), cell_sub, cell_sub] at h3
    exact h3
section
variable {w w' : World} {B Bo side so : Nat} {F Fo : Nat → Prop} {M O : Nat → Nat → Bool}
section
set_option maxHeartbeats 4000000
set_option maxRecDepth 100000
theorem Mx.none_no (h : Mx w B F side M) : Calls Tryd.prog 59 #[.pointer (some ⟨B, 0, none⟩)] w fun e w' => e = .returned (.bool false) ∧ w = w' := by
  obtain ⟨lv, root, nv, lvv, ns, A, ps, hq, _, rfl⟩ := h
  exact qnone_no hq
theorem qcopy_any (h : Mx w B F side M) : Calls Tryd.prog 19 #[.pointer (some ⟨B, 0, none⟩)] w fun e w' => ∃ B', e = .returned (.pointer (some ⟨B', 0, none⟩)) ∧ ∃ F', Mx w' B' F' side M ∧ (∀ k, F' k → w.heap.size ≤ k) ∧ Far (fun _ => False) w w' := by
  have N := h.none_no
  have hw := h.within
  have R := qremade_any h 61 #[] id (fun p => blk (sub M p.1 p.2)) (enters_of Tryd.func61 (by kernel_rfl) rfl) (fun p _ W _ => copy1_any p.1 p.2 _ W) (fun p hp => by
    obtain ⟨h1, h2, _⟩ := mem_placesL.1 hp
    refine ⟨h1, h2, blk_wf _, fun r c hr hc hb => ?_⟩
    rw [bt_blk _ _ _ hc] at hb
    exact hw _ _ hb)
  have hc := fold_copy hw
  clear h
  go_enter Tryd.func19, Tryd.ntmps19
  go_wp2_with fail
  refine N.mono ?_
  rintro e w' ⟨rfl, rfl⟩
  go_wp2_with fail
  refine R.mono ?_
  rintro e w' ⟨B', rfl, F', hX, hlo, hf⟩
  have hX' := hX.congr hc
  clear hX R N
  go_wp2_with fail
  go_ret
  exact ⟨_, rfl, F', hX', hlo, hf⟩
theorem qturn_any (h : Mx w B F side M) : Calls Tryd.prog 20 #[.pointer (some ⟨B, 0, none⟩)] w fun e w' => ∃ B', e = .returned (.pointer (some ⟨B', 0, none⟩)) ∧ ∃ F', Mx w' B' F' side (tnM M) ∧ (∀ k, F' k → w.heap.size ≤ k) ∧ Far (fun _ => False) w w' := by
  have N := h.none_no
  have hw := h.within
  have R := qremade_any h 62 #[] (fun p => (p.2, p.1)) (fun p => blk fun r c => bt (blk (sub M p.1 p.2)) c r) (enters_of Tryd.func62 (by kernel_rfl) rfl) (fun p _ W _ => turn1_any p.1 p.2 _ (blk_wf _) W) (fun p hp => by
    obtain ⟨h1, h2, _⟩ := mem_placesL.1 hp
    refine ⟨h2, h1, blk_wf _, fun r c hr hc hb => ?_⟩
    rw [bt_blk _ _ _ hc, bt_blk _ _ _ hr] at hb
    exact (hw _ _ hb).symm)
  have hc := fold_turn hw
  clear h
  go_enter Tryd.func20, Tryd.ntmps20
  go_wp2_with fail
  refine N.mono ?_
  rintro e w' ⟨rfl, rfl⟩
  go_wp2_with fail
  refine R.mono ?_
  rintro e w' ⟨B', rfl, F', hX, hlo, hf⟩
  have hX' := hX.congr hc
  clear hX R N
  go_wp2_with fail
  go_ret
  exact ⟨_, rfl, F', hX', hlo, hf⟩
theorem qpair_yes (h : Mx w B F side M) (ho : Mx w Bo Fo side O) : Calls Tryd.prog 64 #[.pointer (some ⟨B, 0, none⟩), .pointer (some ⟨Bo, 0, none⟩)] w fun e w' => e = .returned (.int .i64 0) ∧ Far (fun _ => False) w w' := by
  have N1 := h.none_no
  have N2 := ho.none_no
  obtain ⟨_, _, _, _, _, _, _, hq, _, _⟩ := h
  obtain ⟨_, _, _, _, _, _, _, hq2, _, _⟩ := ho
  have p0 : w.cell? ⟨B, 0, none⟩ = some (.int .i64 (side : Nat)) := hq.box.cell 0
  have p1 : w.cell? ⟨Bo, 0, none⟩ = some (.int .i64 (side : Nat)) := hq2.box.cell 0
  clear hq hq2
  go_enter Tryd.func64, Tryd.ntmps64
  go_wp2_with fail
  refine N1.mono ?_
  rintro e w' ⟨rfl, rfl⟩
  go_wp2_with fail
  refine N2.mono ?_
  rintro e w' ⟨rfl, rfl⟩
  go_wp2_with fail
  go_quiet (fail)
  go_wp2_with fail
  go_ret
  exact ⟨rfl, (Far.refl _ w).drewN _⟩
theorem qless_yes (h : Mx w B F side M) (ho : Mx w Bo Fo side O) : Calls Tryd.prog 22 #[.pointer (some ⟨B, 0, none⟩), .pointer (some ⟨Bo, 0, none⟩)] w fun e w' => ∃ B', e = .returned (.tuple #[.pointer (some ⟨B', 0, none⟩), .int .i64 0]) ∧ ∃ F', Mx w' B' F' side (lsM M O) ∧ (∀ k, F' k → w.heap.size ≤ k) ∧ Far (fun _ => False) w w' := by
  have hw := h.within
  have ha : Far (fun _ => False) w (w.alloc (.cells #[.pointer (some ⟨Bo, 0, none⟩)] 24)) := (Far.refl _ w).alloc _
  have P := qpair_yes (h.still ha) (ho.still ha)
  have hk : Bk (w.alloc (.cells #[.pointer (some ⟨Bo, 0, none⟩)] 24)) w.heap.size 24 #[.pointer (some ⟨Bo, 0, none⟩)] := Bk.new rfl
  have hc := fold_less (O := O) hw
  have R : ∀ W, Far (fun _ => False) (w.alloc (.cells #[.pointer (some ⟨Bo, 0, none⟩)] 24)) W → _ := fun W h9 => qremade_any ((h.still ha).still h9) 65 #[.pointer (some ⟨w.heap.size, 0, none⟩)] id (fun p => fun k => less (blk (sub M p.1 p.2) k) (blk (sub O p.1 p.2) k)) (enters_of Tryd.func65 (by kernel_rfl) rfl) (fun p hp W2 h8 => by
    obtain ⟨h1, h2, _⟩ := mem_placesL.1 hp
    exact less1_any p.1 p.2 _ (blk_wf _) W2 (((ho.still ha).still h9).still h8) h1 h2 w.heap.size ((hk.far' h9 id).far' h8 id)) (fun p hp => by
    obtain ⟨h1, h2, _⟩ := mem_placesL.1 hp
    refine ⟨h1, h2, fun k hk => less_lt _ _ (blk_wf _ k hk), fun r c hr hc hb => ?_⟩
    rw [bt_less hr hc, Bool.and_eq_true] at hb
    exact hw _ _ hb.1)
  clear h ho
  have hkc := hk.cell 0
  go_enter Tryd.func22, Tryd.ntmps22
  go_wp2_with fail
  refine P.mono ?_
  rintro e w1 ⟨rfl, hf1⟩
  have R1 := R w1 hf1
  have hf2 := Lib.hid (ha.then hf1)
  clear P R hk hkc
  go_wp2_with fail
  refine R1.mono ?_
  rintro e w' ⟨B', rfl, F', hX, hlo, hf⟩
  have hX' := hX.congr hc
  clear hX R1
  go_wp2_with fail
  go_ret2
  exact ⟨_, rfl, F', hX', fun k hk => Nat.le_trans hf2.out.size (hlo k hk), hf2.out.then hf⟩
end
end
end Go.Proofs.YtoaeeojnelmlnaaDoor
