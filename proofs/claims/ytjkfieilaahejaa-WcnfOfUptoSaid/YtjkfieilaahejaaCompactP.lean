/-
  Productions that are next to each other and the same: one is kept.
-/
import Derived.Test.YtjkfieilaahejaaSortP
import Derived.Lib.SliceRun
namespace Go.Proofs.Ytjkfieilaahejaa
open Go.RowKit
set_option linter.unusedVariables false
set_option linter.unusedSimpArgs false
def tAt (T : List Tr) (j : Nat) : Tr := T.getD j (0, .bool false, [])
def keepAt (T : List Tr) (j : Nat) : Bool := j == 0 || !(ordP (pl (tAt T j)) (pl (tAt T (j - 1))) == 0)
/-- What is kept of the first m. -/
def dd (T : List Tr) (m : Nat) : List Tr := ((List.range m).filter (keepAt T)).map (tAt T)
theorem dd_succ (T : List Tr) (m : Nat) : dd T (m + 1) = dd T m ++ if keepAt T m then [tAt T m] else [] := by
  unfold dd
  rw [List.range_succ, List.filter_append, List.map_append]
  cases h : keepAt T m <;> simp [h]
theorem dd_all {T : List Tr} {m : Nat} (hm : m ≤ T.length) (h : ∀ j, j < m → keepAt T j = true) : dd T m = T.take m := by
  induction m with
  | zero => simp [dd]
  | succ m ih =>
    rw [dd_succ, ih (by omega) (fun j hj => h j (by omega)), h m (by omega), List.take_succ_eq_append_getElem (by omega)]
    simp [tAt, List.getD, List.getElem?_eq_getElem (show m < T.length by omega)]
theorem dd_len (T : List Tr) (m : Nat) : (dd T m).length ≤ m := by
  unfold dd
  rw [List.length_map]
  exact Nat.le_trans (List.length_filter_le _ _) (by simp)
theorem tAt_get {T : List Tr} {j : Nat} (h : j < T.length) : T[j]? = some (tAt T j) := by simp [tAt, List.getD, List.getElem?_eq_getElem h]
theorem tcells_set {R : List Tr} {i : Nat} {t : Tr} (hi : i < R.length) : tcells (R.set i t) = ((tcells R).set (i * 2) (.int .i64 t.1)).set (i * 2 + 1) t.2.1 := by
  induction R generalizing i with
  | nil => simp at hi
  | cons x R ih =>
    cases i with
    | zero => simp [tcells, tcell]
    | succ i =>
      have := ih (i := i) (by simpa using hi)
      rw [List.set_cons_succ]
      show tcell x ++ tcells (R.set i t) = ((tcell x ++ tcells R).set ((i + 1) * 2) _).set ((i + 1) * 2 + 1) _
      rw [this, List.set_append_right _ _ (by simp [tcell]; omega), List.set_append_right _ _ (by simp [tcell]; omega)]
      simp only [tcell, List.length_cons, List.length_nil]
      rw [show (i + 1) * 2 - (0 + 1 + 1) = i * 2 by omega, show (i + 1) * 2 + 1 - (0 + 1 + 1) = i * 2 + 1 by omega]
/-- An element of a row of the call's own written over by another one of it. -/
theorem own_set {w : World} {B g n cap : Nat} {R : List Tr} {i : Nat} {t : Tr} (h : OwnP w B (.slice (some ⟨g, 0, none⟩) n cap) R) (hn : R.length = n) (hi : i < n) (ht : t ∈ R) : OwnP ((w.setCell ⟨g, i * 2, none⟩ (.int .i64 t.1)).setCell ⟨g, i * 2 + 1, none⟩ t.2.1) B (.slice (some ⟨g, 0, none⟩) n cap) (R.set i t) := by
  subst hn
  have hf : Far (fun k => k = g) w ((w.setCell ⟨g, i * 2, none⟩ (.int .i64 t.1)).setCell ⟨g, i * 2 + 1, none⟩ t.2.1) := ((Far.refl (fun k => k = g) w).set _ _ fun _ => rfl).set _ _ fun _ => rfl
  refine ⟨?_, fun u hu => ?_⟩
  · rw [List.length_set, tcells_set hi]
    exact ((h.1.stored (i * 2) _).1.stored (i * 2 + 1) _).1
  · have hu' : u ∈ R := by
      rcases List.mem_or_eq_of_mem_set hu with h1 | h1
      · exact h1
      · rw [h1]; exact ht
    exact (h.2 u hu').far hf (fun k e => e ▸ (h.1.lt g rfl).1) fun hr k hk e => rows_ne h.1 hr prod_ne_sym (k := k) (by rw [e]; rfl) hk
section
set_option maxHeartbeats 2000000
set_option maxRecDepth 100000
theorem eqc_any (h h' : Int) (v v' : Value) (l l' : List Sy) (w : World) (h1 : Body w v l) (h2 : Body w v' l') (hs1 : l.length ≤ maxLen) (hs2 : l'.length ≤ maxLen) :
    Calls Try.prog 49 #[.agg #[.int .i64 h, v], .agg #[.int .i64 h', v']] w fun e w' => e = .returned (.bool (ordP (h, l) (h', l') == 0)) ∧ Grew w w' := by
  obtain ⟨ao, ac, rfl⟩ := Src.form h1
  obtain ⟨bo, bc, rfl⟩ := Src.form h2
  obtain ⟨h0, hh⟩ : ∃ k, k = w.heap.size := ⟨_, rfl⟩
  obtain ⟨k1, hh1⟩ : ∃ k, k = h0 + 1 := ⟨_, rfl⟩
  obtain ⟨W, hW⟩ : ∃ W, W = (w.alloc (.cells #[.int .i64 h, .slice ao l.length ac] 44)).alloc (.cells #[.int .i64 h', .slice bo l'.length bc] 44) := ⟨_, rfl⟩
  have hA : Bk W h0 44 #[.int .i64 h, .slice ao l.length ac] := hW ▸ (Bk.new hh).alloc _
  have hB : Bk W k1 44 #[.int .i64 h', .slice bo l'.length bc] := hW ▸ Bk.new (by simp [hh1, hh])
  have hG : Grew w W := hW ▸ ((Grew.refl w).alloc _).alloc _
  have OR := order_any h h' (.slice ao l.length ac) (.slice bo l'.length bc) l l' W (h1.move hG.far) (h2.move hG.far) hs1 hs2
  have a0 : W.cell? ⟨h0, 0, none⟩ = some (.int .i64 h) := hA.cell 0
  have a1 : W.cell? ⟨h0, 1, none⟩ = some (.slice ao l.length ac) := hA.cell 1
  have b0 : W.cell? ⟨k1, 0, none⟩ = some (.int .i64 h') := hB.cell 0
  have b1 : W.cell? ⟨k1, 1, none⟩ = some (.slice bo l'.length bc) := hB.cell 1
  have hW' := Lib.hid hW
  have hG' := Lib.hid hG
  have hh' := Lib.hid hh
  have hh1' := Lib.hid hh1
  clear hW hA hB hG h1 h2 hh hh1 hs1 hs2
  generalize ordP (h, l) (h', l') = c at *
  go_enter Try.func49, Try.ntmps49
  go_upto_region 1 with fail
  rw [← hh'.out, ← hh1'.out, ← hW'.out]
  go_wp2_with fail
  refine OR.mono ?_
  rintro e w2 ⟨rfl, hG2⟩
  have hG2' := Lib.hid hG2
  clear hG2 OR
  go_wp2_with fail
  go_ret
  exact ⟨rfl, hG'.out.trans hG2'.out⟩
end
end Go.Proofs.Ytjkfieilaahejaa
