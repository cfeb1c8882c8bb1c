/-
  The forms of the verbs' lines, in memory.
-/
import Derived.Test.YtjmgheogpglpnaaDoorRd30
namespace Go.Proofs.YtjmgheogpglpnaaDoor
open Go.RowKit
set_option linter.unusedVariables false
set_option linter.unusedSimpArgs false
def fnV (f : Nat) : Value := .func (.func f) #[] #[]
def clV (h : Nat) : Value := .func (.func 54) #[] #[.pointer (some ⟨h, 0, none⟩)]
/-- The reading function of a verb; the boxes of the closures lie from h on. -/
def rdV (h v : Nat) : Value :=
  if v ≤ 2 then fnV 39 else if v = 5 then fnV 43 else if v = 7 then fnV 45
  else if v = 3 then clV h else if v = 4 then clV (h + 1) else if v = 6 then clV (h + 2) else if v = 8 then clV (h + 3) else if v = 9 then clV (h + 4) else clV (h + 5)
def wrV (v : Nat) : Value := if v ≤ 2 then fnV 40 else if v = 5 then fnV 44 else if v = 7 then fnV 46 else fnV 42
def formC (h v : Nat) : List Value := [.int .i64 (v : Int), st (wordV v), rdV h v, wrV v]
def formsL (h : Nat) : List Value := formC h 1 ++ formC h 2 ++ formC h 3 ++ formC h 4 ++ formC h 5 ++ formC h 6 ++ formC h 7 ++ formC h 8 ++ formC h 9 ++ formC h 10
/-- The boxes of the closures. -/
def Boxes (w : World) (h : Nat) : Prop := Bk w h 3 #[.int .i64 1] ∧ Bk w (h + 1) 3 #[.int .i64 3] ∧ Bk w (h + 2) 3 #[.int .i64 3] ∧ Bk w (h + 3) 3 #[.int .i64 0] ∧ Bk w (h + 4) 3 #[.int .i64 0] ∧ Bk w (h + 5) 3 #[.int .i64 0]
theorem Boxes.far {w w' : World} {h : Nat} {F : Nat → Prop} (b : Boxes w h) (hf : Far F w w') (hF : ∀ k, h ≤ k → k < h + 6 → ¬ F k) : Boxes w' h :=
  ⟨b.1.far' hf (hF _ (by omega) (by omega)), b.2.1.far' hf (hF _ (by omega) (by omega)), b.2.2.1.far' hf (hF _ (by omega) (by omega)), b.2.2.2.1.far' hf (hF _ (by omega) (by omega)), b.2.2.2.2.1.far' hf (hF _ (by omega) (by omega)), b.2.2.2.2.2.far' hf (hF _ (by omega) (by omega))⟩
section
set_option maxHeartbeats 1000000
set_option maxRecDepth 100000
theorem readNames_any (k : Int) (w : World) : Calls Tryd.prog 41 #[.int .i64 k] w fun e w' => e = .returned (clV w.heap.size) ∧ w' = w.alloc (.cells #[.int .i64 k] 3) := by
  go_enter Tryd.func41, Tryd.ntmps41
  go_wp2_with fail
  go_ret
  exact ⟨rfl, rfl⟩
theorem forms_any (w : World) : Calls Tryd.prog 32 #[] w fun e w' => ∃ h, h = w.heap.size ∧ e = .returned (.slice (some ⟨h + 6, 0, none⟩) 10 10) ∧ Bk w' (h + 6) 61 (formsL h).toArray ∧ Boxes w' h ∧ Far (fun _ => False) w w' := by
  obtain ⟨h, hh⟩ : ∃ h, h = w.heap.size := ⟨_, rfl⟩
  obtain ⟨W1, h1⟩ : ∃ W, W = w.alloc (.cells #[.int .i64 1] 3) := ⟨_, rfl⟩
  obtain ⟨W2, h2⟩ : ∃ W, W = W1.alloc (.cells #[.int .i64 3] 3) := ⟨_, rfl⟩
  obtain ⟨W3, h3⟩ : ∃ W, W = W2.alloc (.cells #[.int .i64 3] 3) := ⟨_, rfl⟩
  obtain ⟨W4, h4⟩ : ∃ W, W = W3.alloc (.cells #[.int .i64 0] 3) := ⟨_, rfl⟩
  obtain ⟨W5, h5⟩ : ∃ W, W = W4.alloc (.cells #[.int .i64 0] 3) := ⟨_, rfl⟩
  obtain ⟨W6, h6⟩ : ∃ W, W = W5.alloc (.cells #[.int .i64 0] 3) := ⟨_, rfl⟩
  have z1 : W1.heap.size = h + 1 := by rw [h1]; simp [hh]
  have z2 : W2.heap.size = h + 2 := by rw [h2]; simp [z1]
  have z3 : W3.heap.size = h + 3 := by rw [h3]; simp [z2]
  have z4 : W4.heap.size = h + 4 := by rw [h4]; simp [z3]
  have z5 : W5.heap.size = h + 5 := by rw [h5]; simp [z4]
  have z6 : W6.heap.size = h + 6 := by rw [h6]; simp [z5]
  have B1 : Bk W1 h 3 #[.int .i64 1] := h1 ▸ Bk.new hh
  have B2 : Bk W2 (h + 1) 3 #[.int .i64 3] := h2 ▸ Bk.new z1.symm
  have B3 : Bk W3 (h + 2) 3 #[.int .i64 3] := h3 ▸ Bk.new z2.symm
  have B4 : Bk W4 (h + 3) 3 #[.int .i64 0] := h4 ▸ Bk.new z3.symm
  have B5 : Bk W5 (h + 4) 3 #[.int .i64 0] := h5 ▸ Bk.new z4.symm
  have B6 : Bk W6 (h + 5) 3 #[.int .i64 0] := h6 ▸ Bk.new z5.symm
  have F1 : Far (fun _ => False) w W1 := h1 ▸ (Far.refl _ w).alloc _
  have F2 : Far (fun _ => False) W1 W2 := h2 ▸ (Far.refl _ W1).alloc _
  have F3 : Far (fun _ => False) W2 W3 := h3 ▸ (Far.refl _ W2).alloc _
  have F4 : Far (fun _ => False) W3 W4 := h4 ▸ (Far.refl _ W3).alloc _
  have F5 : Far (fun _ => False) W4 W5 := h5 ▸ (Far.refl _ W4).alloc _
  have F6 : Far (fun _ => False) W5 W6 := h6 ▸ (Far.refl _ W5).alloc _
  have FF := Lib.hid (F1.then (F2.then (F3.then (F4.then (F5.then F6)))))
  have BB : Boxes W6 h := ⟨B1.far' (F2.then (F3.then (F4.then (F5.then F6)))) id, B2.far' (F3.then (F4.then (F5.then F6))) id, B3.far' (F4.then (F5.then F6)) id, B4.far' (F5.then F6) id, B5.far' F6 id, B6⟩
  have BB' := Lib.hid BB
  have C1 := readNames_any 1 w
  have C2 := readNames_any 3 W1
  have C3 := readNames_any 3 W2
  have C4 := readNames_any 0 W3
  have C5 := readNames_any 0 W4
  have C6 := readNames_any 0 W5
  rw [← hh, ← h1] at C1
  rw [z1, ← h2] at C2
  rw [z2, ← h3] at C3
  rw [z3, ← h4] at C4
  rw [z4, ← h5] at C5
  rw [z5, ← h6] at C6
  have z6' := Lib.hid z6
  have hh' := Lib.hid hh
  clear hh h1 h2 h3 h4 h5 h6 z1 z2 z3 z4 z5 z6 B1 B2 B3 B4 B5 B6 F1 F2 F3 F4 F5 F6 BB
  have ec : ∀ k, clV k = .func (.func 54) #[] #[.pointer (some ⟨k, 0, none⟩)] := fun _ => rfl
  simp only [ec] at C1 C2 C3 C4 C5 C6
  clear ec
  go_enter Tryd.func32, Tryd.ntmps32
  go_wp2_with (first
    | (refine C1.mono ?_; rintro e w1 ⟨rfl, rfl⟩) | (refine C2.mono ?_; rintro e w1 ⟨rfl, rfl⟩) | (refine C3.mono ?_; rintro e w1 ⟨rfl, rfl⟩)
    | (refine C4.mono ?_; rintro e w1 ⟨rfl, rfl⟩) | (refine C5.mono ?_; rintro e w1 ⟨rfl, rfl⟩) | (refine C6.mono ?_; rintro e w1 ⟨rfl, rfl⟩))
  go_ret
  have hn : Bk (w1.alloc (.cells (formsL h).toArray 61)) (h + 6) 61 (formsL h).toArray := Bk.new z6'.out.symm
  refine ⟨h, hh'.out, ?_, hn, BB'.out.far ((Far.refl (fun _ => False) _).alloc _) (fun _ _ _ h => h), FF.out.alloc _⟩
  rw [← z6'.out]
  rfl
end
end Go.Proofs.YtjmgheogpglpnaaDoor
