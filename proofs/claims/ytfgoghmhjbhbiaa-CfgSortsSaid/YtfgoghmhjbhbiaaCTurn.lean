/-
  cfg.Turn: what it answers.
-/
import Derived.Test.YtfgoghmhjbhbiaaRemade
import Derived.Test.YtfgoghmhjbhbiaaCheckC
namespace Go.Proofs.Ytfgoghmhjbhbiaa
open Go.RowKit
set_option linter.unusedVariables false
set_option linter.unusedSimpArgs false
/-- What Sort and Turn answer where the productions may not be. -/
def noCnf : Value := .tuple #[.agg #[.int .i64 0, .slice none 0 0], .int .i64 220]
theorem Body.cnf {w w' : World} {v : Value} {l : List Sy} {k : Nat} {a : Int} {b : Value} {t : TypeId} (h : Body w v l) (hk : Bk w k t #[.int .i64 a, b]) (hb : ∀ x, b ≠ .bool x) (hf : Far (fun i => i = k) w w') : Body w' v l := by
  have hn : ∀ a n c, v = .slice (some a) n c → l ≠ [] → a.block ≠ k := by
    intro p n c e hl hpk
    obtain ⟨s, hs⟩ : ∃ s, l[0]? = some s := by
      cases l with
      | nil => exact absurd rfl hl
      | cons s r => exact ⟨s, rfl⟩
    obtain ⟨g, off, c', e', _, h0, _⟩ := h.sym hs
    rw [e'] at e
    cases e
    subst hpk
    rw [Nat.zero_mul, Nat.add_zero, hk.cell] at h0
    match off, h0 with
    | 0, h0 => simp at h0
    | 1, h0 => simp at h0; exact hb _ h0
    | n + 2, h0 => simp at h0
  obtain ⟨h1, h2 | ⟨p, c, e, h2⟩⟩ := h
  · exact ⟨h1, .inl h2⟩
  · refine ⟨h1, .inr ⟨p, c, e, fun j u hu => ?_⟩⟩
    have hl : l ≠ [] := fun e => by
      have := (List.getElem?_eq_some_iff.1 hu).1
      rw [scells_len, e] at this; simp at this
    obtain ⟨hlt, hc⟩ := h2 j u hu
    exact ⟨Nat.lt_of_lt_of_le hlt hf.size, (cell_eq (by rw [add_block]; exact hf.block _ hlt (hn p _ c e hl))).trans hc⟩
/-- The productions can be read behind a store to a box of another kind. -/
theorem OwnP.shut {w w' : World} {B : Nat} {v : Value} {T : List Tr} {k : Nat} {a : Int} {b : Value} (h : OwnP w B v T) (hk : Bk w k 24 #[.int .i64 a, b]) (hb : ∀ x, b ≠ .bool x) (hf : Far (fun i => i = k) w w') : Prods w' v T :=
  ⟨Src.own (row_far h.1 hf fun i hi e => by subst e; exact own_ne h.1 hk prod_ne_cnf hi), fun t ht => (h.2 t ht).body.cnf hk hb hf⟩
section
set_option maxHeartbeats 4000000
set_option maxRecDepth 100000
theorem cturn_any (S : Int) (pv : Value) (T : List Tr) (w : World) (hP : Prods w pv T) (hs : T.length * 32 ≤ 140737488351232) (hs2 : ∀ t ∈ T, t.2.2.length * 16 ≤ 140737488351232) :
    Calls Try.prog 11 #[.agg #[.int .i64 S, pv]] w fun e w' => ((¬ CnfOK S T ∧ e = .returned noCnf) ∨ (CnfOK S T ∧ ∃ pv' T', e = .returned (.tuple #[.agg #[.int .i64 S, pv'], .int .i64 0]) ∧ Prods w' pv' T' ∧ T'.map pl = T.map (fun t => (t.1, t.2.2.reverse)))) ∧ Far (fun _ => False) w w' := by
  obtain ⟨h, hh⟩ : ∃ h, h = w.heap.size := ⟨_, rfl⟩
  obtain ⟨kR, hkR⟩ : ∃ k, k = h + 1 := ⟨_, rfl⟩
  obtain ⟨ao, pc, rfl⟩ := Src.form hP.1
  obtain ⟨w0, hw0⟩ : ∃ w0, w0 = w.alloc (.cells #[.int .i64 S, .slice ao T.length pc] 24) := ⟨_, rfl⟩
  obtain ⟨w1, hw1⟩ : ∃ w1, w1 = w0.alloc (.cells #[.int .i64 0, .slice none 0 0] 24) := ⟨_, rfl⟩
  have hz0 : w0.heap.size = kR := by rw [hw0]; simp [hkR, hh]
  have hA : Bk w1 h 24 #[.int .i64 S, .slice ao T.length pc] := hw1 ▸ ((hw0 ▸ Bk.new hh : Bk w0 h 24 #[.int .i64 S, .slice ao T.length pc]).alloc _)
  have hR : Bk w1 kR 24 #[.int .i64 0, .slice none 0 0] := hw1 ▸ Bk.new hz0.symm
  have hF : Far (fun _ => False) w w1 := hw1 ▸ (hw0 ▸ (Far.refl _ w).alloc _ : Far (fun _ => False) w w0).alloc _
  have a0 : w1.cell? ⟨h, 0, none⟩ = some (.int .i64 S) := hA.cell 0
  have a1 : w1.cell? ⟨h, 1, none⟩ = some (.slice ao T.length pc) := hA.cell 1
  have hm1 : T.length ≤ maxLen := by unfold maxLen; omega
  have hm2 : ∀ t ∈ T, t.2.2.length ≤ maxLen := fun t ht => by have := hs2 t ht; unfold maxLen; omega
  have CK := check_any S (.slice ao T.length pc) T w1 (hP.move hF) hm1 hm2
  have RM := Lib.hid (fun w' (hf : Far (fun _ => False) w1 w') => remade_turn S (.slice ao T.length pc) T w' ((hP.move hF).move hf) hs hs2)
  have hh' := Lib.hid hh
  have hkR' := Lib.hid hkR
  have hw0' := Lib.hid hw0
  have hw1' := Lib.hid hw1
  have hz0' := Lib.hid hz0
  have hA' := Lib.hid hA
  have hR' := Lib.hid hR
  have hF' := Lib.hid hF
  clear hP hs hs2 hh hkR hw0 hw1 hz0 hA hR hF hm1 hm2
  go_enter Try.func11, Try.ntmps11
  go_upto_region 1 with fail
  rw [← hh'.out, ← hkR'.out, ← hw0'.out, ← hw1'.out]
  go_wp2_with fail
  refine CK.mono ?_
  rintro e w2 ⟨rfl, hf2⟩
  have hf2' := Lib.hid hf2
  have b0 : w2.cell? ⟨kR, 0, none⟩ = some (.int .i64 0) := (hR'.out.far' hf2 id).cell 0
  have b1 : w2.cell? ⟨kR, 1, none⟩ = some (.slice none 0 0) := (hR'.out.far' hf2 id).cell 1
  have z0 : w2.frozen? ⟨kR, 0, none⟩ = false := (hR'.out.far' hf2 id).free 0
  have z1 : w2.frozen? ⟨kR, 1, none⟩ = false := (hR'.out.far' hf2 id).free 1
  by_cases hok : CnfOK S T
  · have hok' := Lib.hid hok
    rw [pcode_yes hok]
    have R2 := RM.out w2 hf2
    have a0 : w2.cell? ⟨h, 0, none⟩ = some (.int .i64 S) := (hA'.out.far' hf2 id).cell 0
    have a1 : w2.cell? ⟨h, 1, none⟩ = some (.slice ao T.length pc) := (hA'.out.far' hf2 id).cell 1
    clear hf2 hok CK b0 b1 z0 z1
    go_wp2_with fail
    refine R2.mono ?_
    rintro e w3 ⟨pv3, T3, rfl, ho3, hm3, hf3⟩
    obtain ⟨qo, qc, rfl⟩ := Src.form (Src.own ho3.1)
    have hf3' := Lib.hid (hf2'.out.then hf3)
    have hR3 := hR'.out.far' hf3'.out id
    have b0 : w3.cell? ⟨kR, 0, none⟩ = some (.int .i64 0) := hR3.cell 0
    have b1 : w3.cell? ⟨kR, 1, none⟩ = some (.slice none 0 0) := hR3.cell 1
    have z0 : w3.frozen? ⟨kR, 0, none⟩ = false := hR3.free 0
    have z1 : w3.frozen? ⟨kR, 1, none⟩ = false := hR3.free 1
    have ho3' := Lib.hid ho3
    have hm3' := Lib.hid hm3
    have hR3' := Lib.hid hR3
    clear R2 ho3 hm3 hf3 hR3 a0 a1
    go_wp2_with fail
    have hS5 := (Far.refl (fun k => k = kR) w3).set ⟨kR, 0, none⟩ (.int .i64 S) (fun _ => rfl)
    have hS6 := hS5.set ⟨kR, 1, none⟩ (.slice qo T3.length qc) (fun _ => rfl)
    have hP6 := Lib.hid (ho3'.out.shut hR3'.out (fun x e => by cases e) hS6)
    have hB6 : Bk ((w3.setCell ⟨kR, 0, none⟩ (.int .i64 S)).setCell ⟨kR, 1, none⟩ (.slice qo T3.length qc)) kR 24 #[.int .i64 S, .slice qo T3.length qc] := (hR3'.out.set 0 (.int .i64 S)).set 1 _
    have hF6 := Lib.hid ((hF'.out.then hf3'.out).out hS6 fun k hk e => by have := hkR'.out; have := hh'.out; omega)
    clear b0 b1 z0 z1 hS5 hS6
    generalize ((w3.setCell ⟨kR, 0, none⟩ (.int .i64 S)).setCell ⟨kR, 1, none⟩ (.slice qo T3.length qc)) = W6 at *
    have c0 : W6.cell? ⟨kR, 0, none⟩ = some (.int .i64 S) := hB6.cell 0
    have c1 : W6.cell? ⟨kR, 1, none⟩ = some (.slice qo T3.length qc) := hB6.cell 1
    exact bodyPost_ret (v := .tuple #[.agg #[.int .i64 S, .slice qo T3.length qc], .int .i64 0]) (by simp [results, Try.f11, go_sem, c0, c1]) rfl ⟨.inr ⟨hok'.out, _, T3, rfl, hP6.out, hm3'.out⟩, hF6.out⟩
  · have hok' := Lib.hid hok
    rw [pcode_no hok]
    have hR2' := Lib.hid (hR'.out.far' hf2 id)
    clear hf2 hok CK a0 a1
    go_wp2_with fail
    have hS5 := (Far.refl (fun k => k = kR) w2).set ⟨kR, 0, none⟩ (.int .i64 0) (fun _ => rfl)
    have hS6 := hS5.set ⟨kR, 1, none⟩ (.slice none 0 0) (fun _ => rfl)
    have hB6 : Bk ((w2.setCell ⟨kR, 0, none⟩ (.int .i64 0)).setCell ⟨kR, 1, none⟩ (.slice none 0 0)) kR 24 #[.int .i64 0, .slice none 0 0] := (hR2'.out.set 0 (.int .i64 0)).set 1 _
    have hF6 := Lib.hid ((hF'.out.then hf2'.out).out hS6 fun k hk e => by have := hkR'.out; have := hh'.out; omega)
    clear b0 b1 z0 z1 hS5 hS6
    generalize ((w2.setCell ⟨kR, 0, none⟩ (.int .i64 0)).setCell ⟨kR, 1, none⟩ (.slice none 0 0)) = W6 at *
    have c0 : W6.cell? ⟨kR, 0, none⟩ = some (.int .i64 0) := hB6.cell 0
    have c1 : W6.cell? ⟨kR, 1, none⟩ = some (.slice none 0 0) := hB6.cell 1
    exact bodyPost_ret (v := noCnf) (by simp [results, Try.f11, go_sem, c0, c1, noCnf]) rfl ⟨.inl ⟨hok'.out, rfl⟩, hF6.out⟩
end
end Go.Proofs.Ytfgoghmhjbhbiaa
