/-
  order: walked; the comparison of the sort.
-/
import Derived.Test.YtjkfieilaahejaaOrderL
namespace Go.Proofs.Ytjkfieilaahejaa
open Go.RowKit
set_option linter.unusedVariables false
set_option linter.unusedSimpArgs false
theorem ordP_or (h h' : Int) (l l' : List Sy) : orO (cmpI h h') (cmpI l.length l'.length) (cmpL l l') = ordP (h, l) (h', l') := rfl
theorem or_new (a b c : Int) (w : World) : Calls Try.prog 65 #[.slice (some ⟨w.heap.size, 0, none⟩) 3 3] (w.alloc (.cells #[.int .i64 a, .int .i64 b, .int .i64 c] 3)) fun e w' => e = .returned (.int .i64 (orO a b c)) ∧ Grew w w' :=
  (or_any a b c w.heap.size 3 _ (Bk.cell (Bk.new rfl) 0) (Bk.cell (Bk.new rfl) 1) (Bk.cell (Bk.new rfl) 2)).mono fun e w' ⟨he, hw⟩ => ⟨he, hw ▸ (Grew.refl w).alloc _⟩
section
set_option maxHeartbeats 2000000
set_option maxRecDepth 100000
theorem order_any (h h' : Int) (v v' : Value) (l l' : List Sy) (w : World) (h1 : Body w v l) (h2 : Body w v' l') (hs1 : l.length ≤ maxLen) (hs2 : l'.length ≤ maxLen) :
    Calls Try.prog 47 #[.agg #[.int .i64 h, v], .agg #[.int .i64 h', v']] w fun e w' => e = .returned (.int .i64 (ordP (h, l) (h', l'))) ∧ Grew w w' := by
  obtain ⟨ao, ac, rfl⟩ := Src.form h1
  obtain ⟨bo, bc, rfl⟩ := Src.form h2
  have hO := Lib.hid (ordP_or h h' l l')
  obtain ⟨h0, hh⟩ : ∃ k, k = w.heap.size := ⟨_, rfl⟩
  obtain ⟨k1, hh1⟩ : ∃ k, k = h0 + 1 := ⟨_, rfl⟩
  obtain ⟨W, hW⟩ : ∃ W, W = (w.alloc (.cells #[.int .i64 h, .slice ao l.length ac] 44)).alloc (.cells #[.int .i64 h', .slice bo l'.length bc] 44) := ⟨_, rfl⟩
  have hA : Bk W h0 44 #[.int .i64 h, .slice ao l.length ac] := hW ▸ (Bk.new hh).alloc _
  have hB : Bk W k1 44 #[.int .i64 h', .slice bo l'.length bc] := hW ▸ Bk.new (by simp [hh1, hh])
  have hG : Grew w W := hW ▸ ((Grew.refl w).alloc _).alloc _
  have CF := Lib.hid (fun w' (hf : Grew W w') => compareFunc_any (.slice ao l.length ac) (.slice bo l'.length bc) l l' w' (h1.move (hG.trans hf).far) (h2.move (hG.trans hf).far) hs1 hs2)
  have CM1 := Lib.hid (compare_any h h')
  have CM2 := Lib.hid (compare_any (l.length : Int) (l'.length : Int))
  unfold maxLen at hs1 hs2
  have a0 : W.cell? ⟨h0, 0, none⟩ = some (.int .i64 h) := hA.cell 0
  have a1 : W.cell? ⟨h0, 1, none⟩ = some (.slice ao l.length ac) := hA.cell 1
  have b0 : W.cell? ⟨k1, 0, none⟩ = some (.int .i64 h') := hB.cell 0
  have b1 : W.cell? ⟨k1, 1, none⟩ = some (.slice bo l'.length bc) := hB.cell 1
  have hl0 := hA.lt
  have hl1 := hB.lt
  have HK := Lib.hid (show ∀ w2, Far (fun _ => False) W w2 → w2.cell? ⟨h0, 0, none⟩ = some (.int .i64 h) ∧ w2.cell? ⟨h0, 1, none⟩ = some (.slice ao l.length ac) ∧ w2.cell? ⟨k1, 0, none⟩ = some (.int .i64 h') ∧ w2.cell? ⟨k1, 1, none⟩ = some (.slice bo l'.length bc) ∧ h0 < w2.heap.size ∧ k1 < w2.heap.size from fun w2 hf => ⟨(hf.cell hl0).trans a0, (hf.cell hl0).trans a1, (hf.cell hl1).trans b0, (hf.cell hl1).trans b1, Nat.lt_of_lt_of_le hl0 hf.size, Nat.lt_of_lt_of_le hl1 hf.size⟩)
  have hW' := Lib.hid hW
  have hG' := Lib.hid hG
  have hh' := Lib.hid hh
  have hh1' := Lib.hid hh1
  clear hW hA hB hG h1 h2 hh hh1
  generalize cmpI h h' = c1 at *
  generalize cmpI (l.length : Int) (l'.length : Int) = c2 at *
  generalize cmpL l l' = c3 at *
  go_enter Try.func47, Try.ntmps47
  go_upto_region 1 with fail
  rw [← hh'.out, ← hh1'.out, ← hW'.out]
  go_region_held3 (fun w' => w'.cell? ⟨h0, 0, none⟩ = some (.int .i64 h) ∧ w'.cell? ⟨h0, 1, none⟩ = some (.slice ao l.length ac) ∧ w'.cell? ⟨k1, 0, none⟩ = some (.int .i64 h') ∧ w'.cell? ⟨k1, 1, none⟩ = some (.slice bo l'.length bc)) (go_keep)
    (first
      | (go_at_call 66; (first | (with_reducible refine (CM1.out _).mono ?_) | (with_reducible refine (CM2.out _).mono ?_)); rintro e w' ⟨rfl, rfl⟩)
      | (go_at_call 67; refine (CF.out _ (Grew.refl _).drew).mono ?_; rintro e w2 ⟨rfl, hf⟩; obtain ⟨c0, c1', c2', c3', c4, c5⟩ := HK.out w2 ((Grew.refl _).drew.trans hf).far; have hf' := Lib.hid ((Grew.refl _).drew.trans hf); clear hf)
      | (go_at_call 65; refine (or_new _ _ _ _).mono ?_; rintro e w3 ⟨rfl, hf3⟩; obtain ⟨d0, d1, d2, d3, d4, d5⟩ := HK.out w3 (hf'.out.trans hf3).far; have hf3' := Lib.hid (hf'.out.trans hf3); clear hf3))
  all_goals
    go_wp2_with fail
    go_ret
    exact ⟨by rw [← hO.out]; rfl, hG'.out.trans hf3'.out⟩
end
end Go.Proofs.Ytjkfieilaahejaa
