/-
  The program's Scan.
-/
import Derived.Test.YtogobjokjpddbaaRange
namespace Go.Proofs.Ytogobjokjpddbaa
open Go.RowKit Go.Shelf
set_option linter.unusedVariables false
set_option linter.unusedSimpArgs false
attribute [local go_sem] Oper.semAt_some
/-- What Scan answers. -/
def ScanIs (s : ByteArray) (w : World) (e : Ending) (w' : World) : Prop :=
  (if stopAt s < s.size then e = .returned (.tuple #[.slice none 0 0, .int .i64 (stopAt s), .int .i64 160]) else ∃ v, e = .returned (.tuple #[v, .int .i64 0, .int .i64 0]) ∧ OwnM w.heap.size w' v (txt s (ml s))) ∧ Below w.heap.size w w'
theorem markStruct : Try.prog.underlying 29 = some (.struct (Try.prog.fieldsOf 29)) := by kernel_rfl
section
set_option maxHeartbeats 4000000
set_option maxRecDepth 100000
theorem scan_any (s : ByteArray) (w : World) (hs : s.size ≤ 1073741824) :
    Calls Try.prog 9 #[.string s] w (ScanIs s w) := by
  obtain ⟨i0, hi, hz0, hz1, hz2⟩ := info_parts markInfo
  have hml := ml_all s
  refine (callsIn_wide (n := 10)).1 (callsIn_of_wp_marks Try.func9 rfl trivial (wpIn_wide.2 ?_) rfl)
  simp only [Try.ntmps9, List.size_toArray, List.length_cons, List.length_nil, Nat.reduceAdd, Nat.reduceSub, Array.replicate_succ, Array.replicate_zero, List.push_toArray, List.append_toArray, List.nil_append, List.cons_append]
  go_wp2_with fail
  refine (allof_any s _).mono ?_
  rintro e w1 ⟨rfl, rfl⟩
  go_wp2_with fail
  refine all_range (p := 11) (q := 7) s (by omega) (w.heap.size + 1 + 1) rfl (Bk.new (by simp)) (Sc w (w.heap.size + 3) s w.heap.size (w.heap.size + 1) (w.heap.size + 2)) (fun _ _ _ => False) ?own ?ownx ?start ?size (fun b W => ∃ v, Bk W w.heap.size 22 #[v] ∧ v.ownBlock ≠ some b) ?ex ?ex0 ?assign ?body ?done ?stop
  case own => have := Sc.own (w0 := w) (B := w.heap.size + 3) (s := s) (bl := w.heap.size) (be := w.heap.size + 1) (bs := w.heap.size + 2) (by omega); simpa using this
  case ownx => intro c s A B row h; cases h
  case start =>
    refine ⟨?_, by simp, ⟨.slice none 0 0, ?_, World.ownsRow_nil _ _ _ _⟩, ?_, ?_⟩
    · exact (((Below.refl _ _).alloc (Nat.le_refl _) _).alloc (by simp) _).alloc (by simp; omega) _
    · exact ((Bk.new rfl).alloc _).alloc _
    · exact (Bk.new (by simp)).alloc _
    · exact Bk.new (by simp)
  case size => intro pre W h; have := h.sz; exact ⟨by simp; omega, by omega⟩
  case ex =>
    intro b u A C row h hg hr
    obtain ⟨v, h1, h2⟩ := h
    exact ⟨v, h1.kept hg hr, h2⟩
  case ex0 =>
    intro pre x W h
    obtain ⟨v, h1, h2⟩ := h.list
    refine ⟨v, h1.alloc _, fun e => ?_⟩
    have := (own_cells h2 e).2
    obtain ⟨o, ho, _⟩ := this
    have := (Array.getElem?_eq_some_iff.1 ho).1
    omega
  case assign =>
    intro l x W K hK
    simp only [slots, mc, List.setIfInBounds_toArray, List.set_cons_succ, List.set_cons_zero] at hK
    simp only [List.setIfInBounds_toArray, List.set_cons_succ, List.set_cons_zero]
    generalize vm s x = y at *
    gi_wp2
    exact hK
  case body =>
    intro l pre x Bx W hBx hX hEx hI hlen
    simp only [World.size_alloc] at hBx
    obtain ⟨v, hv, hO⟩ := hI.list
    have hne : v.ownBlock ≠ some Bx := by
      obtain ⟨v2, h1, h2⟩ := hEx
      have e : some (Obj.cells #[v2] 22 (0, 0)) = some (Obj.cells #[v] 22 (0, 0)) := h1.symm.trans hv
      cases e
      exact h2
    have HS := Lib.hid (fun (w5 : World) (v' : Value) (u : Int) (o : Obj) => hI.step (x := x) (w5 := w5) (v' := v') (u := u) (o := o) (v := v) (by omega) (by omega) (by omega) (by omega) (by omega) (by omega) (by omega) (by omega) hv hO)
    have hes := ext_size s x
    have hvl := vm_le s x
    have cl := hv.cell 0
    have fl := hv.free 0
    have ce := hI.stop.cell 0
    have fe := hI.stop.free 0
    have cx0 := hX.cell 0
    have cx1 := hX.cell 1
    have cx2 := hX.cell 2
    simp only [slots, List.setIfInBounds_toArray, List.set_cons_succ, List.set_cons_zero]
    unfold mc at cx0 cx1 cx2 hX
    have hlx := hX.lt
    have hsz := hI.sz
    have hlen2 : (txt s (pre.map (vm s))).length < 1073741824 := by rw [txt_length, List.length_map]; omega
    generalize txt s (pre.map (vm s)) = tp at *
    generalize lastEnd 0 (pre.map (vm s)) = le at *
    generalize vm s x = y at *
    obtain ⟨k, i, e⟩ := y
    dsimp only at hes hvl cx0 cx1 cx2 hX ⊢
    obtain ⟨hk, hie, hes'⟩ := hvl
    replace cx0 : W.cell? ⟨Bx, 0, none⟩ = some (.int .i64 k) := cx0
    replace cx1 : W.cell? ⟨Bx, 1, none⟩ = some (.int .i64 i) := cx1
    replace cx2 : W.cell? ⟨Bx, 2, none⟩ = some (.string (s.extract i e)) := cx2
    replace cl : W.cell? ⟨w.heap.size, 0, none⟩ = some v := cl
    replace ce : W.cell? ⟨w.heap.size + 1, 0, none⟩ = some (.int .i64 le) := ce
    generalize hx : s.extract i e = y at *
    have hX' := Lib.hid hX
    have hE := Lib.hid hes
    have hz : i + y.size ≤ 1073741824 := by omega
    clear hx hes hX hv hEx
    gi_wp2_with (gi_at_builtin; refine wpListIn_append_own _ rfl _ _ 22 rfl (w.heap.size + 3) 29 i0 (.agg #[.int .i64 0, .int .i64 0, .string ⟨#[]⟩]) 3 32 markType hi hz0 hz1 hz2 rfl (by decide) v _ _ rfl (hO.row.alloc _) _ 1 1 [.int .i64 (k : Int), .int .i64 (i : Int), .string y] rfl rfl ?c1 ?c2 ?c3 ?c4 ?c5 ?_)
    case c2 => first | exact ⟨rfl, rfl, rfl⟩ | (intro u hu; simp at hu; rcases hu with rfl | rfl | rfl <;> rfl)
    case c3 => unfold maxLen; omega
    case c4 => omega
    case c5 => first | omega | (simp; omega)
    · intro v' w5 hown hgrow _
      have HO := Lib.hid hown
      have HG := Lib.hid hgrow
      have hb5 : Below (w.heap.size + 3) W w5 := ((Below.refl _ _).alloc (by omega) _).trans ((Below.refl _ _).grown hgrow (by simp; omega) (fun q hq => (hO.row.lt q hq).1))
      obtain ⟨hc5, hf5⟩ := bcell hb5
      obtain ⟨g, cap, rfl, hg1, hg2⟩ := World.ownsRow.form hown (by omega)
      have hX5 := (hX'.out.alloc _).grown hgrow (fun e => hne e.symm)
      have cx1' : w5.cell? ⟨Bx, 1, none⟩ = some (.int .i64 i) := hX5.cell 1
      have cx2' : w5.cell? ⟨Bx, 2, none⟩ = some (.string y) := hX5.cell 2
      clear hX5
      clear hown hgrow hb5
      gi_wp2
      have hfin := HS.out _ _ _ _ HO.out HG.out (show ((i : Int) + (y.size : Int)) = (e : Int) by have := hE.out; omega)
      simp only [World.size_alloc]
      exact hfin
  case done =>
    intro D W hD hI hK
    simp only [World.size_alloc] at hD
    obtain ⟨v, hv, hO⟩ := hI.list
    have hrun := stop_run s
    have hle := stopAt_le s
    have hst := hI.stop
    have hll := lastEnd_le s (ml s) 0 (Nat.zero_le _)
    rw [ml_vm] at hst hO hll
    have cl : W.cell? ⟨w.heap.size, 0, none⟩ = some v := hv.cell 0
    have ce : W.cell? ⟨w.heap.size + 1, 0, none⟩ = some (.int .i64 (lastEnd 0 (ml s) : Nat)) := hst.cell 0
    have hDs : D < W.heap.size := (Array.getElem?_eq_some_iff.1 hK).1
    have db := hI.db
    have SK := skip_any s (lastEnd 0 (ml s)) W (by omega) hll
    rw [← hrun] at SK
    have hOD : OwnM w.heap.size (W.putObj D (.deferred none)) v (txt s (ml s)) := by
      refine own_base (own_kept hO.row (grownBy_putObj' W D (.deferred none)) fun r e hv => ?_) (by omega)
      cases e
      obtain ⟨_, o, ho, hc⟩ := own_cells hO hv
      rw [hK] at ho
      cases ho
      cases hc
    have hdb : Below w.heap.size w (W.putObj D (.deferred none)) := db.trans ((Below.refl _ W).grown (grownBy_putObj' W D (.deferred none)) db.size (fun q e => by cases e; omega))
    have HO := Lib.hid hOD
    have HK := Lib.hid hK
    clear hI hv hO hrun hst hOD hK
    generalize lastEnd 0 (ml s) = le at *
    go_wp2_with fail
    refine SK.mono ?_
    rintro e w2 ⟨rfl, rfl⟩
    by_cases hlt : stopAt s < s.size
    · have hd : decide ((stopAt s : Int) < (s.size : Int)) = true := by rw [decide_eq_true_eq]; omega
      go_wp2_with fail
      refine ⟨by simp, .inl ⟨D, _, rfl, run_takeDeferred HK.out, ?_⟩⟩
      refine ⟨.tuple #[.slice none 0 0, .int .i64 (stopAt s), .int .i64 160], ?_, ?_⟩
      · simp [results, Try.f9, go_sem]
      · exact ⟨by rw [if_pos hlt], hdb⟩
    · have hd : decide ((stopAt s : Int) < (s.size : Int)) = false := by rw [decide_eq_false_iff_not]; omega
      go_wp2_with fail
      refine ⟨by simp, .inl ⟨D, _, rfl, run_takeDeferred HK.out, ?_⟩⟩
      refine ⟨.tuple #[v, .int .i64 0, .int .i64 0], ?_, ?_⟩
      · simp [results, Try.f9, go_sem]
      · exact ⟨by rw [if_neg hlt]; exact ⟨v, rfl, HO.out⟩, hdb⟩
  case stop => intro D c pre W _ _ h; cases h
end
end Go.Proofs.Ytogobjokjpddbaa
