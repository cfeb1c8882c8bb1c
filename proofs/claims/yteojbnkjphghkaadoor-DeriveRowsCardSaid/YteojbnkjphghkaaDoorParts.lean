/-
  Is, Parts.
-/
import Derived.Test.YteojbnkjphghkaaDoorWeak
namespace Go.Proofs.YteojbnkjphghkaaDoor
open Go.RowKit
set_option linter.unusedVariables false
set_option linter.unusedSimpArgs false
theorem far_cells {W w1 : World} (hb : Far (fun _ => False) W w1) : (∀ b o, b < W.heap.size → w1.cell? ⟨b, o, none⟩ = W.cell? ⟨b, o, none⟩) ∧ (∀ b o, b < W.heap.size → w1.frozen? ⟨b, o, none⟩ = W.frozen? ⟨b, o, none⟩) :=
  ⟨fun b o h => hb.cell (p := ⟨b, o, none⟩) h, fun b o h => (hb.below (Nat.le_refl _) fun _ _ h => h).frozen (p := ⟨b, o, none⟩) h⟩
theorem far_new {W w2 : World} {o : Obj} (h : Far (fun _ => False) (W.alloc o).drew w2) : W.heap.size < w2.heap.size := by have := h.size; simp [World.drew] at this; omega
theorem bk_two {w : World} {g : Nat} {t : TypeId} {a b : Value} {u v : Value} (h : Bk w g t #[a, b]) : Bk ((w.setCell ⟨g, 0, none⟩ u).setCell ⟨g, 1, none⟩ v) g t #[u, v] := (h.set 0 u).set 1 v
theorem far_two {W w : World} {g : Nat} {u v : Value} (h : Far (fun _ => False) W w) (hg : W.heap.size ≤ g) : Far (fun _ => False) W ((w.setCell ⟨g, 0, none⟩ u).setCell ⟨g, 1, none⟩ v) := (h.set _ _ (fun h => absurd h (Nat.not_lt.2 hg))).set _ _ (fun h => absurd h (Nat.not_lt.2 hg))
theorem OwnP.far' {w w' : World} {F : Nat → Prop} {B : Nat} {v : Value} {T : List Tr} (h : OwnP w B v T) (hf : Far F w w') (hB : ∀ k, F k → B ≤ k) (h1 : ∀ k, v.ownBlock = some k → ¬ F k) (h2 : ∀ (u : Value) (l : List Sy), w.ownsRow 0 50 2 u l.length (scells l) → ∀ k, u.ownBlock = some k → ¬ F k) : OwnP w' B v T :=
  ⟨row_far h.1 hf h1, fun t ht => (h.2 t ht).far hf hB fun hr k hk => h2 _ _ hr k hk⟩
section
set_option maxHeartbeats 2000000
set_option maxRecDepth 100000
theorem contains_any (v : Value) (T : List Tr) (w : World) (hP : Prods w v T) (hs : T.length ≤ maxLen) (hs2 : ∀ t ∈ T, t.2.2.length ≤ maxLen) :
    Calls Tryd.prog 62 #[v, .func (.func 63) #[] #[]] w fun e w' => (∃ b : Bool, e = .returned (.bool b) ∧ (b = true ↔ ¬ ∀ t ∈ T, weakB t.2.2 = true)) ∧ Far (fun _ => False) w w' := by
  have IX := index_any v T w hP hs hs2
  obtain ⟨ao, pc, rfl⟩ := Src.form hP.1
  clear hP hs hs2
  go_enter Tryd.func62, Tryd.ntmps62
  go_wp2_with fail
  refine IX.mono ?_
  rintro e w2 ⟨⟨k, rfl, hk⟩, hf⟩
  have hf' := Lib.hid hf
  have hk' := Lib.hid hk
  clear hf hk IX
  go_wp2_with fail
  go_ret
  refine ⟨⟨decide (0 ≤ k), rfl, ?_⟩, hf'.out⟩
  rw [decide_eq_true_eq]
  rcases hk'.out with ⟨h1, h2⟩ | ⟨h1, h2⟩
  · exact ⟨fun h => by omega, fun h => absurd h1 h⟩
  · exact ⟨fun _ => h1, fun _ => h2⟩
theorem is_any (S : Int) (pv : Value) (T : List Tr) (w : World) (hP : Prods w pv T) (hs : T.length ≤ maxLen) (hs2 : ∀ t ∈ T, t.2.2.length ≤ maxLen) :
    Calls Tryd.prog 43 #[.agg #[.int .i64 S, pv]] w fun e w' => (∃ b : Bool, e = .returned (.bool b) ∧ (b = true ↔ WeakP S T)) ∧ Far (fun _ => False) w w' := by
  obtain ⟨h, hh⟩ : ∃ h, h = w.heap.size := ⟨_, rfl⟩
  obtain ⟨ao, pc, rfl⟩ := Src.form hP.1
  obtain ⟨w1, hw1⟩ : ∃ w1, w1 = w.alloc (.cells #[.int .i64 S, .slice ao T.length pc] 24) := ⟨_, rfl⟩
  have hA : Bk w1 h 24 #[.int .i64 S, .slice ao T.length pc] := hw1 ▸ Bk.new hh
  have hF : Far (fun _ => False) w w1 := hw1 ▸ (Far.refl _ w).alloc _
  have a0 : w1.cell? ⟨h, 0, none⟩ = some (.int .i64 S) := hA.cell 0
  have a1 : w1.cell? ⟨h, 1, none⟩ = some (.slice ao T.length pc) := hA.cell 1
  have CK := check_any S (.slice ao T.length pc) T w1 (hP.move hF) hs hs2
  have CC := Lib.hid (fun w' (hf : Far (fun _ => False) w1 w') => contains_any (.slice ao T.length pc) T w' ((hP.move hF).move hf) hs hs2)
  have hh' := Lib.hid hh
  have hw1' := Lib.hid hw1
  have hF' := Lib.hid hF
  have hA' := Lib.hid hA
  clear hP hs hs2 hh hw1 hF hA
  by_cases hM : CnfOK S T
  · rw [pcode_yes hM] at CK
    have hM' := Lib.hid hM
    clear hM
    go_enter Tryd.func43, Tryd.ntmps43
    go_upto_region 1 with fail
    rw [← hh'.out, ← hw1'.out]
    go_wp2_with fail
    refine CK.mono ?_
    rintro e w2 ⟨rfl, hf2⟩
    have hf2' := Lib.hid hf2
    clear a0 a1 CK
    have a1 : w2.cell? ⟨h, 1, none⟩ = some (.slice ao T.length pc) := (hA'.out.far' hf2 id).cell 1
    have CC2 := CC.out w2 hf2
    clear hf2
    go_wp2_with fail
    refine CC2.mono ?_
    rintro e w3 ⟨⟨b, rfl, hb⟩, hf3⟩
    have hb' := Lib.hid hb
    have hf3' := Lib.hid hf3
    clear hb hf3 CC2
    go_wp2_with fail
    go_ret
    refine ⟨⟨!b, rfl, ?_⟩, hF'.out.then (hf2'.out.then hf3'.out)⟩
    have hb := hb'.out
    constructor
    · intro h1
      refine ⟨hM'.out, Classical.byContradiction fun h2 => ?_⟩
      rw [hb.2 h2] at h1
      cases h1
    · intro h1
      cases b with
      | false => rfl
      | true => exact absurd h1.2 (hb.1 rfl)
  · rw [pcode_no hM] at CK
    have hM' := Lib.hid hM
    clear hM
    go_enter Tryd.func43, Tryd.ntmps43
    go_upto_region 1 with fail
    rw [← hh'.out, ← hw1'.out]
    go_wp2_with fail
    refine CK.mono ?_
    rintro e w2 ⟨rfl, hf2⟩
    have hf2' := Lib.hid hf2
    clear a0 a1 CK hf2
    go_wp2_with fail
    go_ret
    exact ⟨⟨false, rfl, fun h => (by cases h), fun h => absurd h.1 hM'.out⟩, hF'.out.then hf2'.out⟩
end
end Go.Proofs.YteojbnkjphghkaaDoor
