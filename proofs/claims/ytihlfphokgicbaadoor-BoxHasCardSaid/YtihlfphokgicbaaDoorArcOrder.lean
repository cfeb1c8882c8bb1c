/-
  Arcs compared: by the program, by the document.
-/
import Derived.Test.YtihlfphokgicbaaDoorBoxFns
namespace Go.Proofs.YtihlfphokgicbaaDoor
open Go.RowKit
set_option linter.unusedVariables false
set_option linter.unusedSimpArgs false
def arv (x : Ar) : Value := .agg #[.int .i64 x.1, .bool x.2.1, .int .i64 x.2.2.1, .int .i64 x.2.2.2]
theorem symStruct : Tryd.prog.underlying 38 = some (.struct (Tryd.prog.fieldsOf 38)) := by kernel_rfl
theorem size_bool (w : World) : (sizeOf 4).run Tryd.prog w = .ok 1 w := by
  have : (Tryd.prog.info? 4).map (fun i => (i.zero, i.size, i.bytes)) = some (some (.bool false), 1, 1) := by kernel_rfl
  obtain ⟨i, hi, _, h1, _⟩ := info_parts this
  simp [sizeOf, typeInfo, hi, h1]
theorem size_int (w : World) : (sizeOf 3).run Tryd.prog w = .ok 1 w := by
  have : (Tryd.prog.info? 3).map (fun i => (i.zero, i.size, i.bytes)) = some (some (.int .i64 0), 1, 8) := by kernel_rfl
  obtain ⟨i, hi, _, h1, _⟩ := info_parts this
  simp [sizeOf, typeInfo, hi, h1]
theorem eq_sym (l : Bool) (n : Int) (l' : Bool) (n' : Int) (w : World) : (Op.equalIn 10000 38 (.agg #[.bool l, .int .i64 n]) (.agg #[.bool l', .int .i64 n'])).run Tryd.prog w = .ok (l == l' && n == n') w := by
  have wb : Tryd.prog.underlying 4 = some .bool := by kernel_rfl
  have wd : Tryd.prog.underlying 3 = some (.int .i64) := by kernel_rfl
  show (Op.equalIn (9998 + 1 + 1) _ _ _).run Tryd.prog w = _
  generalize 9998 = d
  rw [run_equalIn_struct w _ _ _ _ symStruct (by kernel_rfl)]
  have e1 := run_equalIn_bool' (P := Tryd.prog) w d 4 l l' wb
  have e2 := run_equalIn_int (P := Tryd.prog) w d 3 .i64 .i64 n n' wd
  have s1 := size_bool w
  have s2 := size_int w
  cases h1 : l == l' <;> cases h2 : n == n' <;> simp [Program.fieldsOf, Tryd.underlying38, Op.eqFields, Sem.run_bind, part, e1, e2, h1, h2, s1, s2, Result.andThen]
theorem ordO_or (x y : Ar) : orO (cmpI x.1 y.1) (symO x.2.1 x.2.2.1 y.2.1 y.2.2.1) (cmpI x.2.2.2 y.2.2.2) = ordO x y := rfl
theorem or_new (a b c : Int) (w : World) : Calls Tryd.prog 25 #[.slice (some ⟨w.heap.size, 0, none⟩) 3 3] (w.alloc (.cells #[.int .i64 a, .int .i64 b, .int .i64 c] 3)) fun e w' => e = .returned (.int .i64 (orO a b c)) ∧ Far (fun _ => False) w w' :=
  (or_any a b c w.heap.size 3 _ (Bk.cell (Bk.new rfl) 0) (Bk.cell (Bk.new rfl) 1) (Bk.cell (Bk.new rfl) 2)).mono fun e w' ⟨he, hw⟩ => ⟨he, hw ▸ alloc_far _ _⟩
section
set_option maxHeartbeats 2000000
set_option maxRecDepth 100000
theorem order_any (x y : Ar) (w : World) : Calls Tryd.prog 16 #[arv x, arv y] w fun e w' => e = .returned (.int .i64 (ordO x y)) ∧ Far (fun _ => False) w w' := by
  obtain ⟨x0, x1, x2, x3⟩ := x
  obtain ⟨y0, y1, y2, y3⟩ := y
  have hO := Lib.hid (ordO_or (x0, x1, x2, x3) (y0, y1, y2, y3))
  obtain ⟨W, hW⟩ : ∃ W, W = (w.alloc (.cells #[.int .i64 x0, .bool x1, .int .i64 x2, .int .i64 x3] 49)).alloc (.cells #[.int .i64 y0, .bool y1, .int .i64 y2, .int .i64 y3] 49) := ⟨_, rfl⟩
  have hA : Bk W w.heap.size 49 #[.int .i64 x0, .bool x1, .int .i64 x2, .int .i64 x3] := hW ▸ (Bk.new rfl).alloc _
  have hB : Bk W (w.heap.size + 1) 49 #[.int .i64 y0, .bool y1, .int .i64 y2, .int .i64 y3] := hW ▸ Bk.new (by simp)
  have hF : Far (fun _ => False) w W := hW ▸ ((Far.refl _ w).alloc _).alloc _
  have hW' := Lib.hid hW
  have hA' := Lib.hid hA
  have hB' := Lib.hid hB
  have hF' := Lib.hid hF
  clear hW hA hB hF
  unfold arv
  simp only []
  go_enter Tryd.func16, Tryd.ntmps16
  go_wp2_with fail
  rw [← hW'.out]
  have a0 : W.cell? ⟨w.heap.size, 0, none⟩ = some (.int .i64 x0) := hA'.out.cell 0
  have a1 : W.cell? ⟨w.heap.size, 1, none⟩ = some (.bool x1) := hA'.out.cell 1
  have a2 : W.cell? ⟨w.heap.size, 2, none⟩ = some (.int .i64 x2) := hA'.out.cell 2
  have a3 : W.cell? ⟨w.heap.size, 3, none⟩ = some (.int .i64 x3) := hA'.out.cell 3
  have b0 : W.cell? ⟨w.heap.size + 1, 0, none⟩ = some (.int .i64 y0) := hB'.out.cell 0
  have b1 : W.cell? ⟨w.heap.size + 1, 1, none⟩ = some (.bool y1) := hB'.out.cell 1
  have b2 : W.cell? ⟨w.heap.size + 1, 2, none⟩ = some (.int .i64 y2) := hB'.out.cell 2
  have b3 : W.cell? ⟨w.heap.size + 1, 3, none⟩ = some (.int .i64 y3) := hB'.out.cell 3
  have hl0 := hA'.out.lt
  have hl1 := hB'.out.lt
  have K : ∀ w2, Far (fun _ => False) W.drew w2 → w2.cell? ⟨w.heap.size, 0, none⟩ = some (.int .i64 x0) ∧ w2.cell? ⟨w.heap.size, 1, none⟩ = some (.bool x1) ∧ w2.cell? ⟨w.heap.size, 2, none⟩ = some (.int .i64 x2) ∧ w2.cell? ⟨w.heap.size, 3, none⟩ = some (.int .i64 x3) ∧
      w2.cell? ⟨w.heap.size + 1, 0, none⟩ = some (.int .i64 y0) ∧ w2.cell? ⟨w.heap.size + 1, 1, none⟩ = some (.bool y1) ∧ w2.cell? ⟨w.heap.size + 1, 2, none⟩ = some (.int .i64 y2) ∧ w2.cell? ⟨w.heap.size + 1, 3, none⟩ = some (.int .i64 y3) ∧ w.heap.size < w2.heap.size ∧ w.heap.size + 1 < w2.heap.size := fun w2 h =>
    ⟨(h.cell hl0).trans a0, (h.cell hl0).trans a1, (h.cell hl0).trans a2, (h.cell hl0).trans a3, (h.cell hl1).trans b0, (h.cell hl1).trans b1, (h.cell hl1).trans b2, (h.cell hl1).trans b3, Nat.lt_of_lt_of_le hl0 h.size, Nat.lt_of_lt_of_le hl1 h.size⟩
  have HK := Lib.hid K
  clear K
  generalize hh : w.heap.size = h0 at *
  generalize hh1 : h0 + 1 = h1 at *
  have hh' := Lib.hid hh
  have hh1' := Lib.hid hh1
  clear hh hh1
  go_region_held3 (fun w' => w'.cell? ⟨h0, 0, none⟩ = some (.int .i64 x0) ∧ w'.cell? ⟨h0, 1, none⟩ = some (.bool x1) ∧ w'.cell? ⟨h0, 2, none⟩ = some (.int .i64 x2) ∧ w'.cell? ⟨h0, 3, none⟩ = some (.int .i64 x3) ∧
      w'.cell? ⟨h1, 0, none⟩ = some (.int .i64 y0) ∧ w'.cell? ⟨h1, 1, none⟩ = some (.bool y1) ∧ w'.cell? ⟨h1, 2, none⟩ = some (.int .i64 y2) ∧ w'.cell? ⟨h1, 3, none⟩ = some (.int .i64 y3)) (go_keep)
    (first
      | (go_at_call 26; refine (compare_any _ _ _).mono ?_; rintro e w' ⟨rfl, rfl⟩)
      | (go_at_call 27; refine (orderSyms_any _ _ _ _ _).mono ?_; rintro e w2 ⟨rfl, hf⟩; obtain ⟨c0, c1, c2, c3, c4, c5, c6, c7, c8, c9⟩ := HK.out w2 hf)
      | (go_at_call 25; refine (or_new _ _ _ _).mono ?_; rintro e w3 ⟨rfl, hf3⟩; obtain ⟨d0, d1, d2, d3, d4, d5, d6, d7, d8, d9⟩ := HK.out w3 (hf.then hf3)))
  all_goals
    have HF := Lib.hid (((hF'.out.then (drew_far _)).then hf).then hf3)
    go_wp2_with fail
    go_ret
    exact ⟨by rw [← hO.out]; rfl, HF.out⟩
end
end Go.Proofs.YtihlfphokgicbaaDoor
