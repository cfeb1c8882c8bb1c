/-
  Forests copied.
-/
import Derived.Test.YteoglnbmmgoibaaGreatDoorForest
namespace Go.Proofs.YteoglnbmmgoibaaGreatDoor
open Go.RowKit
set_option linter.unusedVariables false
set_option linter.unusedSimpArgs false
theorem own_ne {w : World} {base sz n : Nat} {e t : TypeId} {v : Value} {xs : List Value} {g : Nat} {cs : Array Value} (h : w.ownsRow base e sz v n xs) (hB : Bk w g t cs) (hne : e ≠ t) : v.ownBlock ≠ some g := by
  intro he
  rcases h.2 with ⟨rfl, _⟩ | ⟨g', cap, cur, rfl, _, hg, _⟩
  · cases he
  · have : g' = g := Option.some.inj he
    subst this
    rw [show w.heap[g']? = _ from hB] at hg
    cases hg
    exact hne rfl
theorem Far.out {F : Nat → Prop} {a b c : World} (h : Far (fun _ => False) a b) (k : Far F b c) (hF : ∀ i, i < a.heap.size → ¬ F i) : Far (fun _ => False) a c := h.trans k fun i hi hf => hF i hi hf
theorem row_far {w w' : World} {F : Nat → Prop} {base e size n : Nat} {v : Value} {xs : List Value} (h : w.ownsRow base e size v n xs) (hf : Far F w w') (hF : ∀ k, v.ownBlock = some k → ¬ F k) : w'.ownsRow base e size v n xs := row_same h fun k hk hk2 => hf.block k hk2 (hF k hk)
theorem fact_ne_forest : (33 : TypeId) ≠ 25 := by decide
theorem pack_ne_forest : (42 : TypeId) ≠ 25 := by decide
section
set_option maxHeartbeats 4000000
set_option maxRecDepth 100000
theorem fcopy_any (v pv : Value) (F : List Fc) (P : List Pk) (w : World) (hP : Facts w v F) (hQ : Packs w pv P) (hs : F.length * 24 ≤ 140737488351232) (hs2 : P.length * 40 ≤ 140737488351232) :
    Calls Tryz.prog 6 #[.agg #[v, pv]] w fun e w' => (∃ ao c bo d, e = .returned (.agg #[.slice ao F.length c, .slice bo P.length d]) ∧ Facts w' (.slice ao F.length c) F ∧ Packs w' (.slice bo P.length d) P) ∧ Far (fun _ => False) w w' := by
  obtain ⟨h, hh⟩ : ∃ h, h = w.heap.size := ⟨_, rfl⟩
  obtain ⟨kR, hkR⟩ : ∃ k, k = h + 1 := ⟨_, rfl⟩
  obtain ⟨ao, ac, rfl⟩ := Src.form hP
  obtain ⟨bo, bc, rfl⟩ := Src.form hQ
  obtain ⟨w0, hw0⟩ : ∃ w0, w0 = w.alloc (.cells #[.slice ao F.length ac, .slice bo P.length bc] 25) := ⟨_, rfl⟩
  obtain ⟨W, hW⟩ : ∃ W, W = w0.alloc (.cells #[.slice none 0 0, .slice none 0 0] 25) := ⟨_, rfl⟩
  have hz0 : w0.heap.size = kR := by rw [hw0]; simp [hkR, hh]
  have hA : Bk W h 25 #[.slice ao F.length ac, .slice bo P.length bc] := hW ▸ ((hw0 ▸ Bk.new hh : Bk w0 h 25 #[.slice ao F.length ac, .slice bo P.length bc]).alloc _)
  have hR : Bk W kR 25 #[.slice none 0 0, .slice none 0 0] := hW ▸ Bk.new hz0.symm
  have hF : Far (fun _ => False) w W := hW ▸ (hw0 ▸ (Far.refl _ w).alloc _ : Far (fun _ => False) w w0).alloc _
  have a0 : W.cell? ⟨h, 0, none⟩ = some (.slice ao F.length ac) := hA.cell 0
  obtain ⟨si, sz, si1, si2, si3, si4, si5⟩ := info3 info_fact
  obtain ⟨pi, pz, pi1, pi2, pi3, pi4, pi5⟩ := info3 info_pack
  have A1 := Lib.hid (World.ownsRow_nil W W.heap.size 33 3)
  have A2 := Lib.hid (hP.move hF)
  have A3 := Lib.hid (fcells_one F)
  have A4 : 0 + F.length ≤ maxLen := by unfold maxLen; omega
  have A5 : (0 + F.length) * 24 ≤ 140737488355328 := by omega
  have A6 : W.heap.size ≤ W.heap.size := Nat.le_refl _
  have A7 : 0 < 3 := by decide
  have A8 : 0 < 5 := by decide
  have hQ1 := Lib.hid (hQ.move hF)
  have hh' := Lib.hid hh
  have hkR' := Lib.hid hkR
  have hw0' := Lib.hid hw0
  have hW' := Lib.hid hW
  have hA' := Lib.hid hA
  have hR' := Lib.hid hR
  have hF' := Lib.hid hF
  clear hP hQ hh hkR hw0 hW hz0 hA hR hF
  go_enter Tryz.func6, Tryz.ntmps6
  go_upto_region 1 with fail
  rw [← hh'.out, ← hkR'.out, ← hw0'.out, ← hW'.out]
  go_upto_region 4 with (at_builtin; refine wpList_app rfl _ _ 22 rfl W.heap.size 33 si sz 3 24 Tryz.underlying22 si1 si2 si3 si4 si5 A7 _ 0 _ rfl A1.out (.slice ao F.length ac) F.length _ rfl A2.out A3.out A4 A5 A6 ?_; intro v1 wb ho1 hg1)
  have hfb : Far (fun _ => False) W wb := (Far.refl _ W).grown hg1 (fun k _ e => by cases e)
  rw [Nat.zero_add, List.nil_append] at ho1
  obtain ⟨vo, vc, rfl⟩ := Src.form (Src.own ho1)
  have a1 : wb.cell? ⟨h, 1, none⟩ = some (.slice bo P.length bc) := (hA'.out.far' hfb id).cell 1
  have hwb := hfb.size
  have ho1' := Lib.hid ho1
  have hfb' := Lib.hid hfb
  have B1 := Lib.hid (World.ownsRow_nil wb wb.heap.size 42 5)
  have B2 := Lib.hid (hQ1.out.move hfb)
  have B3 := Lib.hid (pcells_one P)
  have B4 : 0 + P.length ≤ maxLen := by unfold maxLen; omega
  have B5 : (0 + P.length) * 40 ≤ 140737488355328 := by omega
  have B6 : wb.heap.size ≤ wb.heap.size := Nat.le_refl _
  clear ho1 hfb hg1 A1 A2 A3 A4 A5 A6 a0 hwb
  go_upto_region 5 with (at_builtin; refine wpList_app rfl _ _ 23 rfl wb.heap.size 42 pi pz 5 40 Tryz.underlying23 pi1 pi2 pi3 pi4 pi5 A8 _ 0 _ rfl B1.out (.slice bo P.length bc) P.length _ rfl B2.out B3.out B4 B5 B6 ?_; intro v2 wd ho2 hg2)
  have hfd : Far (fun _ => False) wb wd := (Far.refl _ wb).grown hg2 (fun k _ e => by cases e)
  rw [Nat.zero_add, List.nil_append] at ho2
  obtain ⟨uo, uc, rfl⟩ := Src.form (Src.own ho2)
  have hRd := hR'.out.far' (hfb'.out.then hfd) id
  have z0 : wd.frozen? ⟨kR, 0, none⟩ = false := hRd.free 0
  have z1 : wd.frozen? ⟨kR, 1, none⟩ = false := hRd.free 1
  have b0 : wd.cell? ⟨kR, 0, none⟩ = some (.slice none 0 0) := hRd.cell 0
  have b1 : wd.cell? ⟨kR, 1, none⟩ = some (.slice none 0 0) := hRd.cell 1
  have hoF := Lib.hid (row_far ho1'.out hfd (fun _ _ h => h))
  have hoP := Lib.hid ho2
  have hRd' := Lib.hid hRd
  have hFd := Lib.hid (hF'.out.then (hfb'.out.then hfd))
  clear hfd ho2 hg2 hRd B1 B2 B3 B4 B5 B6 a1
  go_wp2_with fail
  have hS5 := (Far.refl (fun k => k = kR) wd).set ⟨kR, 0, none⟩ (.slice vo F.length vc) (fun _ => rfl)
  have hS6 := hS5.set ⟨kR, 1, none⟩ (.slice uo P.length uc) (fun _ => rfl)
  have hP6 := Lib.hid (Src.own (row_far hoF.out hS6 fun k hk e => by subst e; exact own_ne hoF.out hRd'.out fact_ne_forest hk))
  have hQ6 := Lib.hid (Src.own (row_far hoP.out hS6 fun k hk e => by subst e; exact own_ne hoP.out hRd'.out pack_ne_forest hk))
  have hB6 : Bk ((wd.setCell ⟨kR, 0, none⟩ (.slice vo F.length vc)).setCell ⟨kR, 1, none⟩ (.slice uo P.length uc)) kR 25 #[.slice vo F.length vc, .slice uo P.length uc] := (hRd'.out.set 0 (.slice vo F.length vc)).set 1 _
  have hF6 := Lib.hid (hFd.out.out hS6 fun k hk e => by have := hkR'.out; have := hh'.out; omega)
  clear b0 b1 z0 z1 hS5 hS6
  generalize ((wd.setCell ⟨kR, 0, none⟩ (.slice vo F.length vc)).setCell ⟨kR, 1, none⟩ (.slice uo P.length uc)) = W6 at *
  have c0 : W6.cell? ⟨kR, 0, none⟩ = some (.slice vo F.length vc) := hB6.cell 0
  have c1 : W6.cell? ⟨kR, 1, none⟩ = some (.slice uo P.length uc) := hB6.cell 1
  exact bodyPost_ret (v := .agg #[.slice vo F.length vc, .slice uo P.length uc]) (by simp [results, Tryz.f6, go_sem, c0, c1]) rfl ⟨⟨_, _, _, _, rfl, hP6.out, hQ6.out⟩, hF6.out⟩
end
end Go.Proofs.YteoglnbmmgoibaaGreatDoor
