/-
  Set: a cell more.
-/
import Derived.Test.YtoaeeojnelmlnaaDoorQAbs
import Derived.StillTailTactics
namespace Go.Proofs.YtoaeeojnelmlnaaDoor
open Go.RowKit
set_option linter.unusedVariables false
set_option linter.unusedSimpArgs false
section
variable {w w' : World} {B side lv root : Nat} {nv lvv : Value} {ns : List (Nat → Nat)} {A : Nat → Nat → Nat → Nat} {ps : List (Nat × Nat)} {F : Nat → Prop} {M : Nat → Nat → Bool}
/-- One cell of a leaf is written. -/
theorem Qd.setCell (h : Qd w B side lv root nv lvv ns A ps M) {i j : Nat} (hi : i < side) (hj : j < side) (hn : A 0 (i / 64) (j / 64) ≠ 0) {g cap : Nat} (hlv : lvv = .slice (some ⟨g, 0, none⟩) ps.length cap) :
    Qd (w.setCell ⟨g, (A 0 (i / 64) (j / 64) - 1) * 64 + i % 64, none⟩ (.int .u64 ((blk (sub M (i / 64) (j / 64)) (i % 64) ||| 2 ^ (j % 64) : Nat)))) B side lv root nv lvv ns A ps (putM M i j) := by
  have hp := h.tree.leaf _ _ hn
  subst hlv
  have hgB : g ≠ B := fun e => q_row_ne h.box h.leaves (by decide) (by rw [e]; rfl)
  have hgN : nv.ownBlock ≠ some g := fun e => q_rows_ne h.nodes h.leaves (by decide) e rfl
  have ho := (h.leaves.stored ((A 0 (i / 64) (j / 64) - 1) * 64 + i % 64) (.int .u64 ((blk (sub M (i / 64) (j / 64)) (i % 64) ||| 2 ^ (j % 64) : Nat)))).1
  rw [lrows_put h.tree.nodup hp] at ho
  refine ⟨⟨h.box.far (fun e => hgB e.symm) _, h.nodes.kept (set_grown_q _ _ _) (.inr hgN), ho, h.tree, h.side1, h.side2, h.wide, h.lv4, fun r c hrc => ?_, fun a b hz r c hr hc => ?_, h.small, h.nfew⟩, h.few⟩
  · unfold putM at hrc
    rw [Bool.or_eq_true] at hrc
    rcases hrc with hrc | hrc
    · exact h.within r c hrc
    · simp at hrc; omega
  · have := sub_put (M := M) (i := i) (j := j) a b r c hr hc
    unfold sub at this
    rw [this, h.bare a b hz r c hr hc]
    simp
    rintro rfl rfl
    exact absurd hz hn
theorem full_put {M : Nat → Nat → Bool} {ps ps' : List (Nat × Nat)} {i j : Nat} (h : Full M ps) (hp : ps' = ps ∨ ps' = ps ++ [(i / 64, j / 64)]) : Full (putM M i j) ps' := by
  have key : ∀ p ∈ ps, ∃ r c, r < 64 ∧ c < 64 ∧ sub (putM M i j) p.1 p.2 r c = true := fun p hp => by
    obtain ⟨r, c, hr, hc, e⟩ := h p hp
    exact ⟨r, c, hr, hc, by rw [sub_put _ _ _ _ hr hc, e]; rfl⟩
  rcases hp with rfl | rfl
  · exact key
  · intro p hp
    rcases List.mem_append.1 hp with hp | hp
    · exact key p hp
    · simp at hp
      subst hp
      exact ⟨i % 64, j % 64, Nat.mod_lt _ (by decide), Nat.mod_lt _ (by decide), by rw [sub_put _ _ _ _ (Nat.mod_lt _ (by decide)) (Nat.mod_lt _ (by decide))]; simp⟩
theorem or_pw (x c : Nat) (hx : x < 18446744073709551616) (hc : c < 64) : bits .or .u64 (x : Int) (IntKind.u64.wrap (2 ^ c)) = ((x ||| 2 ^ c : Nat) : Int) := by
  rw [wrap_pw hc, bits_or64 _ _ hx (pw_lt hc)]
  rfl
section
set_option maxHeartbeats 2000000
set_option maxRecDepth 100000
theorem qset_yes (h : Mx w B F side M) (i j : Nat) (hi : i < side) (hj : j < side) :
    Calls Tryd.prog 49 #[.pointer (some ⟨B, 0, none⟩), .int .i64 i, .int .i64 j] w fun e w' => e = .returned (.tuple #[.bool (!M i j), .int .i64 0]) ∧ ∃ F', Mx w' B F' side (putM M i j) ∧ Mv w w' F F' := by
  obtain ⟨lv, root, nv, lvv, ns, A, ps, hq, hfull, rfl⟩ := h
  have G := qget_yes hq i j hi hj
  have hs2 := hq.side2
  have hw := hq.wide
  have wi : wrap64 ((i : Int) / 64) = ((i / 64 : Nat) : Int) := by rw [wrap64_of (by omega)]; omega
  have wj : wrap64 ((j : Int) / 64) = ((j / 64 : Nat) : Int) := by rw [wrap64_of (by omega)]; omega
  have h' := Lib.hid hq
  have hfull' := Lib.hid hfull
  clear hq hfull
  by_cases hm : M i j = true
  · rw [hm] at G ⊢
    go_enter Tryd.func49, Tryd.ntmps49
    go_wp2_with fail
    refine G.mono ?_
    rintro e w' ⟨rfl, hf⟩
    go_wp2_with fail
    go_ret2
    exact ⟨rfl, Qf B nv lvv, Mx.congr ⟨lv, root, nv, lvv, ns, A, ps, h'.out.still hf, hfull'.out, rfl⟩ (putM_same hm), Mv.still hf⟩
  · have hm' : M i j = false := by simpa using hm
    rw [hm'] at G ⊢
    have GR : ∀ W, Far (fun _ => False) w W → _ := fun W hf => grow_any (h'.out.still hf) (i / 64) (j / 64) (by omega) (by omega)
    go_enter Tryd.func49, Tryd.ntmps49
    go_wp2_with fail
    refine G.mono ?_
    rintro e w1 ⟨rfl, hf⟩
    have GR1 := GR w1 hf
    clear GR G
    go_wp2_with fail
    refine GR1.mono ?_
    rintro e w2 ⟨root', nv', lvv', ns', A', ps', rfl, hn, hq2, hfo, hf2, hps⟩
    have hfu := Lib.hid (full_put (i := i) (j := j) hfull'.out (hps.imp id And.left))
    obtain ⟨g, cap, rfl, hlt, hpp, hcell, _⟩ := hq2.leafAt hn
    have hmv : Mv w w2 (Qf B nv lvv) (Qf B nv' (.slice (some ⟨g, 0, none⟩) ps'.length cap)) := ⟨far_upto (hf.mono fun _ _ h => h.elim) hf2 (fun k h _ => h), fun k hk => (hfo k hk).imp id fun h => Nat.le_trans hf.size h⟩
    have p4 : w2.cell? ⟨B, 4, none⟩ = some (.slice (some ⟨g, 0, none⟩) ps'.length cap) := hq2.box.cell 4
    have hset := Lib.hid (hq2.setCell hi hj hn rfl)
    have hfrz : w2.frozen? ⟨g, (A' 0 (i / 64) (j / 64) - 1) * 64 + i % 64, none⟩ = false := hq2.leaves.frozenAt _
    have hc := hcell (i % 64) (Nat.mod_lt _ (by decide))
    have hmany := hq2.many
    have hmv' := Lib.hid hmv
    obtain ⟨n, hN⟩ : ∃ n, A' 0 (i / 64) (j / 64) = n := ⟨_, rfl⟩
    rw [hN] at hlt hn hc hset hfrz ⊢
    obtain ⟨x, hX⟩ : ∃ x, blk (sub M (i / 64) (j / 64)) (i % 64) = x := ⟨_, rfl⟩
    have hxw : x < 18446744073709551616 := hX ▸ blk_wf _ _ (Nat.mod_lt _ (by decide))
    rw [hX] at hc hset
    have hx1 : IntKind.i64.wrap ((n : Int) - 1) = ((n - 1 : Nat) : Int) := by rw [IntKind.wrap_i64]; omega
    have hor := or_pw x (j % 64) hxw (Nat.mod_lt _ (by decide))
    clear hq2 hfo hf2 hps hcell hmv hX hN GR1 hpp
    go_wp2_with fail
    obtain ⟨r, hr⟩ : ∃ r, i % 64 = r := ⟨_, rfl⟩
    obtain ⟨c, hcc⟩ : ∃ c, j % 64 = c := ⟨_, rfl⟩
    have hr64 : r < 64 := by omega
    have hri : (r : Int) < 64 := by omega
    have hti : (i : Int).tmod 64 = (r : Int) := by rw [Int.tmod_eq_emod_of_nonneg (by omega)]; omega
    have htj : (j : Int).tmod 64 = (c : Int) := by rw [Int.tmod_eq_emod_of_nonneg (by omega)]; omega
    rw [hr] at hset hc hfrz
    rw [hcc] at hor hset
    have hc64 : c < 64 := by omega
    have hmin : min c 64 = c := Nat.min_eq_left (by omega)
    clear hr hcc
    go_still_tail 17, (by kernel_rfl)
    go_wp2_with fail
    go_ret2
    simp only [hmin, hor]
    refine ⟨rfl, _, Mx.still (w := w2.setCell ⟨g, (n - 1) * 64 + r, none⟩ (.int .u64 ((x ||| 2 ^ c : Nat)))) ⟨lv, root', nv', _, ns', A', ps', hset.out, hfu.out, rfl⟩ ((Far.refl _ _).drew), ?_⟩
    have hm := hmv'.out
    exact ⟨(hm.far.set _ _ (fun hl => (hm.more g (.inr (.inr rfl))).resolve_right (by simp at hl; omega))).drew, hm.more⟩
end
end
end Go.Proofs.YtoaeeojnelmlnaaDoor
