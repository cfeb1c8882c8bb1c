/-
  Kind, the program's and the reference's; the reference's Scan.
-/
import Derived.Test.YtogobjokjpddbaaScan
namespace Go.Proofs.Ytogobjokjpddbaa
open Go.RowKit Go.Shelf
set_option linter.unusedVariables false
set_option linter.unusedSimpArgs false
attribute [local go_sem] Oper.semAt_some
/-- The kind of the mark that a text is as a whole; 0: it is none. -/
def kd (s : ByteArray) : Nat := if 0 < s.size ∧ mend (byt s) s.size 0 = s.size then kindN (byt s 0) else 0
theorem ext_all (s : ByteArray) : s.extract 0 s.size = s := by
  apply ByteArray.ext
  simp
theorem ext_eq_size {s : ByteArray} {i e : Nat} (h : s.extract i e = s) (he : e ≤ s.size) (hs : 0 < s.size) : i = 0 ∧ e = s.size := by
  have := congrArg ByteArray.size h
  rw [ByteArray.size_extract] at this
  omega
theorem ml_nil {s : ByteArray} (h : ml s = []) : kd s = 0 := by
  unfold kd
  split
  · rename_i h0
    by_cases hk : kindN (byt s 0) = 0
    · exact hk
    · unfold ml at h; rw [cut_mark _ _ h0.1 hk] at h; cases h
  · rfl
theorem ml_cons {s : ByteArray} {x : Nat × Nat × Nat} {l : List (Nat × Nat × Nat)} (h : ml s = x :: l) :
    x.2.1 = run (byt s) s.size blankN 0 ∧ x.2.1 < s.size ∧ x.1 = kindN (byt s x.2.1) ∧ x.1 ≠ 0 ∧ x.2.2 = mend (byt s) s.size x.2.1 := by
  have g := ml_good s
  rw [h] at g
  exact ⟨g.1, g.2.1, g.2.2.1, g.2.2.2.1, g.2.2.2.2.1⟩
theorem kd_yes {s : ByteArray} {x : Nat × Nat × Nat} {l : List (Nat × Nat × Nat)} (h : ml s = x :: l) (he : s.extract x.2.1 x.2.2 = s) : kd s = x.1 ∧ kd s ≠ 0 ∧ x.2.1 = 0 ∧ x.2.2 = s.size := by
  obtain ⟨h1, h2, h3, h4, h5⟩ := ml_cons h
  obtain ⟨e0, e1⟩ := ext_eq_size he (by rw [h5]; exact mend_le _ _ h2) (by omega)
  have hk : kd s = x.1 := by
    unfold kd
    rw [e0] at h5
    rw [if_pos ⟨by omega, by rw [← h5, e1]⟩, h3, e0]
  exact ⟨hk, by rw [hk]; exact h4, e0, e1⟩
theorem kd_no {s : ByteArray} {x : Nat × Nat × Nat} {l : List (Nat × Nat × Nat)} (h : ml s = x :: l) (he : s.extract x.2.1 x.2.2 ≠ s) : kd s = 0 := by
  obtain ⟨h1, h2, h3, h4, h5⟩ := ml_cons h
  unfold kd
  split
  · rename_i h0
    by_cases hk : kindN (byt s 0) = 0
    · exact hk
    · exfalso
      have hb : blankN (byt s 0) = false := by
        cases hb : blankN (byt s 0)
        · rfl
        · exact absurd (blank_kind _ hb) hk
      rw [run_stop _ _ hb] at h1
      apply he
      rw [h5, h1, h0.2]
      exact ext_all s
  · rfl
/-- How memory stands in Kind's loop. -/
structure Kc (w0 : World) (B : Nat) (s : ByteArray) (bt bk bb bs : Nat) (k : Int) (b : Bool) (W : World) : Prop where
  db : Below w0.heap.size w0 W
  sz : B ≤ W.heap.size
  t : Bk W bt 9 #[.string s]
  k : Bk W bk 27 #[.int .i64 k]
  b : Bk W bb 4 #[.bool b]
  s : Bk W bs 9 #[.string s]
theorem Kc.kept {w0 : World} {B : Nat} {s : ByteArray} {bt bk bb bs : Nat} {k : Int} {b : Bool} {A C : World} {row : Option Nat} (hB : w0.heap.size ≤ B) (h : Kc w0 B s bt bk bb bs k b A) (hg : A.grownBy C row)
    (hr : ∀ r, row = some r → B ≤ r ∧ ∃ o : Obj, A.heap[r]? = some o ∧ o.isCells = false) : Kc w0 B s bt bk bb bs k b C :=
  ⟨h.db.trans ((Below.refl _ A).grown hg h.db.size fun q e => Nat.le_trans hB (hr q e).1), Nat.le_trans h.sz hg.size, h.t.kept hg hr, h.k.kept hg hr, h.b.kept hg hr, h.s.kept hg hr⟩
theorem Kc.put {w0 : World} {B : Nat} {s : ByteArray} {bt bk bb bs : Nat} {k : Int} {b : Bool} {W : World} (h : Kc w0 B s bt bk bb bs k b W) (k' : Int) (b' : Bool) (h1 : w0.heap.size ≤ bt) (h2 : bt < bk) (h3 : bk < bb) (h4 : bb < bs) :
    Kc w0 B s bt bk bb bs k' b' ((W.setCell ⟨bk, 0, none⟩ (.int .i64 k')).setCell ⟨bb, 0, none⟩ (.bool b')) ∧
      KeepsFrom B W ((W.setCell ⟨bk, 0, none⟩ (.int .i64 k')).setCell ⟨bb, 0, none⟩ (.bool b')) ∧
      ∀ (D : Nat) (o : Obj), W.heap[D]? = some o → o.isCells = false → ((W.setCell ⟨bk, 0, none⟩ (.int .i64 k')).setCell ⟨bb, 0, none⟩ (.bool b')).heap[D]? = some o := by
  have kA := KeepsOthers.setCell W ⟨bk, 0, none⟩ (.int .i64 k')
  have kB := KeepsOthers.setCell (W.setCell ⟨bk, 0, none⟩ (.int .i64 k')) ⟨bb, 0, none⟩ (.bool b')
  refine ⟨⟨?_, ?_, ?_, ?_, ?_, ?_⟩, ⟨Nat.le_trans kA.size kB.size, fun b o _ h hc => kB.same b o (kA.same b o h hc) hc⟩, fun D o h hc => kB.same D o (kA.same D o h hc) hc⟩
  · exact (h.db.setCell (p := ⟨bk, 0, none⟩) (by simp only []; omega) _).setCell (p := ⟨bb, 0, none⟩) (by simp only []; omega) _
  · exact Nat.le_trans h.sz (Nat.le_trans kA.size kB.size)
  · exact (h.t.far (p := ⟨bk, 0, none⟩) (by simp only []; omega) _).far (p := ⟨bb, 0, none⟩) (by simp only []; omega) _
  · exact (h.k.set 0 _).far (p := ⟨bb, 0, none⟩) (by simp only []; omega) _
  · exact (h.b.far (p := ⟨bk, 0, none⟩) (by simp only []; omega) _).set 0 _
  · exact (h.s.far (p := ⟨bk, 0, none⟩) (by simp only []; omega) _).far (p := ⟨bb, 0, none⟩) (by simp only []; omega) _
def KX (w : World) (s : ByteArray) (c : Code) (pre : List (Nat × Nat × Nat)) (W : World) : Prop :=
  ∃ x, pre = [x] ∧ ((c = .ret ∧ s.extract (vm s x).2.1 (vm s x).2.2 = s ∧ Kc w (w.heap.size + 4) s w.heap.size (w.heap.size + 1) (w.heap.size + 2) (w.heap.size + 3) ((vm s x).1 : Int) true W) ∨
    (c = .exit 0 ∧ s.extract (vm s x).2.1 (vm s x).2.2 ≠ s ∧ Kc w (w.heap.size + 4) s w.heap.size (w.heap.size + 1) (w.heap.size + 2) (w.heap.size + 3) 0 false W))
section
set_option maxHeartbeats 4000000
set_option maxRecDepth 100000
theorem kindT_any (s : ByteArray) (w : World) (hs : s.size ≤ 140737488351232) :
    Calls Try.prog 17 #[.string s] w fun e w' => e = .returned (.tuple #[.int .i64 (kd s), .bool (kd s != 0)]) ∧ Below w.heap.size w w' := by
  refine (callsIn_wide (n := 10)).1 (callsIn_of_wp_marks Try.func17 rfl trivial (wpIn_wide.2 ?_) rfl)
  simp only [Try.ntmps17, List.size_toArray, List.length_cons, List.length_nil, Nat.reduceAdd, Nat.reduceSub, Array.replicate_succ, Array.replicate_zero, List.push_toArray, List.append_toArray, List.nil_append, List.cons_append]
  go_wp2_with fail
  refine (allof_any s _).mono ?_
  rintro e w1 ⟨rfl, rfl⟩
  go_wp2_with fail
  have fin : ∀ (D : Nat) (W : World) (k : Int) (b : Bool), Kc w (w.heap.size + 4) s w.heap.size (w.heap.size + 1) (w.heap.size + 2) (w.heap.size + 3) k b W → w.heap.size + 4 ≤ D → W.heap[D]? = some (.deferred (some [])) →
      Below w.heap.size w (W.putObj D (.deferred none)) ∧ (W.putObj D (.deferred none)).cell? ⟨w.heap.size + 1, 0, none⟩ = some (.int .i64 k) ∧ (W.putObj D (.deferred none)).cell? ⟨w.heap.size + 1 + 1, 0, none⟩ = some (.bool b) := by
    intro D W k b h hD hK
    have h' := h.kept (B := w.heap.size + 4) (by omega) (grownBy_putObj' W D (.deferred none)) (fun r e => by cases e; exact ⟨hD, _, hK, rfl⟩)
    exact ⟨h'.db, h'.k.cell 0, h'.b.cell 0⟩
  have FIN := Lib.hid fin
  clear fin
  refine all_range (p := 7) (q := 4) s hs (w.heap.size + 1 + 1 + 1) rfl (Bk.new (by simp)) (fun pre W => pre = [] ∧ Kc w (w.heap.size + 4) s w.heap.size (w.heap.size + 1) (w.heap.size + 2) (w.heap.size + 3) 0 false W) (KX w s) ?own ?ownx ?start ?size (fun _ _ => True) ?ex ?ex0 ?assign ?body ?done ?stop
  case own =>
    intro pre A C row h hg hr
    simp only [World.size_alloc] at hr
    exact ⟨h.1, h.2.kept (by omega) hg hr⟩
  case ownx =>
    intro c pre A C row h hg hr
    simp only [World.size_alloc] at hr
    obtain ⟨x, h1, h2⟩ := h
    refine ⟨x, h1, h2.imp (fun h => ⟨h.1, h.2.1, h.2.2.kept (by omega) hg hr⟩) (fun h => ⟨h.1, h.2.1, h.2.2.kept (by omega) hg hr⟩)⟩
  case start =>
    refine ⟨rfl, ?_, by simp, ?_, ?_, ?_, ?_⟩
    · exact ((((Below.refl _ _).alloc (Nat.le_refl _) _).alloc (by simp) _).alloc (by simp; omega) _).alloc (by simp; omega) _
    · exact (((Bk.new rfl).alloc _).alloc _).alloc _
    · exact ((Bk.new (by simp)).alloc _).alloc _
    · exact (Bk.new (by simp)).alloc _
    · exact Bk.new (by simp)
  case size => intro pre W h; have := h.2.sz; exact ⟨by simp; omega, by omega⟩
  case ex => intro b u A C row h hg hr; trivial
  case ex0 => intro pre x W h; trivial
  case assign =>
    intro l x W K hK
    simp only [slots, mc, List.setIfInBounds_toArray, List.set_cons_succ, List.set_cons_zero] at hK
    simp only [List.setIfInBounds_toArray, List.set_cons_succ, List.set_cons_zero]
    generalize vm s x = y at *
    gi_wp2
    exact hK
  case body =>
    intro l pre x Bx W hBx hX _ hI hlen
    simp only [World.size_alloc] at hBx
    obtain ⟨rfl, hI⟩ := hI
    have HI := Lib.hid hI
    have ct : W.cell? ⟨w.heap.size, 0, none⟩ = some (.string s) := hI.t.cell 0
    have ck : W.cell? ⟨w.heap.size + 1, 0, none⟩ = some (.int .i64 0) := hI.k.cell 0
    have fk := hI.k.free 0
    have cb : W.cell? ⟨w.heap.size + 1 + 1, 0, none⟩ = some (.bool false) := hI.b.cell 0
    have fb : W.frozen? ⟨w.heap.size + 1 + 1, 0, none⟩ = false := hI.b.free 0
    have cx0 : W.cell? ⟨Bx, 0, none⟩ = some (.int .i64 ((vm s x).1 : Int)) := hX.cell 0
    have cx2 : W.cell? ⟨Bx, 2, none⟩ = some (.string (s.extract (vm s x).2.1 (vm s x).2.2)) := hX.cell 2
    simp only [slots, List.setIfInBounds_toArray, List.set_cons_succ, List.set_cons_zero, List.nil_append]
    clear hX hI
    by_cases he : s.extract (vm s x).2.1 (vm s x).2.2 = s
    · have HE := Lib.hid he
      have hq : ((s.extract (vm s x).2.1 (vm s x).2.2).toList == s.toList) = true := by rw [he]; simp
      clear he
      generalize hk : (vm s x).1 = k at *
      have HK := Lib.hid hk
      clear hk
      gi_wp2
      have hI := HI.out
      obtain ⟨p1, p2, _⟩ := hI.put (k : Int) true (Nat.le_refl _) (by omega) (by omega) (by omega)
      simp only [World.size_alloc]
      exact ⟨p2, x, rfl, .inl ⟨rfl, HE.out, by rw [HK.out]; exact p1⟩⟩
    · have HE := Lib.hid he
      have hq : ((s.extract (vm s x).2.1 (vm s x).2.2).toList == s.toList) = false := str_ne he
      clear he
      gi_wp2
      exact ⟨KeepsFrom.refl _ _, x, rfl, .inr ⟨rfl, HE.out, HI.out⟩⟩
  case done =>
    intro D W hD hI hK
    simp only [World.size_alloc] at hD
    obtain ⟨hml, hI⟩ := hI
    obtain ⟨p1, _, p3⟩ := hI.put 0 false (Nat.le_refl _) (by omega) (by omega) (by omega)
    have hK' := p3 D _ hK rfl
    have hF := Lib.hid (FIN.out D _ 0 false p1 hD hK')
    have HK := Lib.hid hK'
    have hkd := Lib.hid (ml_nil hml)
    have ck : W.cell? ⟨w.heap.size + 1, 0, none⟩ = some (.int .i64 0) := hI.k.cell 0
    have fk := hI.k.free 0
    have cb : W.cell? ⟨w.heap.size + 1 + 1, 0, none⟩ = some (.bool false) := hI.b.cell 0
    have fb : W.frozen? ⟨w.heap.size + 1 + 1, 0, none⟩ = false := hI.b.free 0
    clear hK hK' hml hI p1 p3
    go_wp2_with fail
    refine ⟨by simp, .inl ⟨D, _, rfl, run_takeDeferred HK.out, ?_⟩⟩
    obtain ⟨f1, f2, f3⟩ := hF.out
    refine ⟨.tuple #[.int .i64 0, .bool false], ?_, ?_⟩
    · simp [results, Try.f17, go_sem, f2, f3]
    · exact ⟨by rw [hkd.out]; rfl, f1⟩
  case stop =>
    intro D c pre W hD hpre hX hK
    simp only [World.size_alloc] at hD
    obtain ⟨x, rfl, hX⟩ := hX
    obtain ⟨l, hl⟩ := hpre
    have hmx : ml s = x :: l := by rw [← hl]; rfl
    have hvx : vm s x = x := by
      have := ml_vm s
      rw [hmx, List.map_cons] at this
      exact (List.cons.inj this).1
    rw [hvx] at hX
    rcases hX with ⟨rfl, he, hI⟩ | ⟨rfl, he, hI⟩
    · have hkd := kd_yes hmx he
      have hkd1 := hkd.1
      have hkd2 := hkd.2.1
      obtain ⟨f1, f2, f3⟩ := FIN.out D W _ true hI hD hK
      have HK := Lib.hid hK
      have HE := Lib.hid (And.intro hkd1 hkd2)
      clear hkd hkd1 hkd2 he hvx hmx hl hI hK
      go_wp2_with fail
      refine ⟨by simp, .inl ⟨D, _, rfl, run_takeDeferred HK.out, ?_⟩⟩
      refine ⟨.tuple #[.int .i64 (x.1 : Int), .bool true], ?_, ?_⟩
      · simp [results, Try.f17, go_sem, f2, f3]
      · exact ⟨by rw [HE.out.1, show (x.1 != 0) = true by have := HE.out.2; rw [HE.out.1] at this; simpa using this], f1⟩
    · obtain ⟨p1, _, p3⟩ := hI.put 0 false (Nat.le_refl _) (by omega) (by omega) (by omega)
      have hK' := p3 D _ hK rfl
      have hF := Lib.hid (FIN.out D _ 0 false p1 hD hK')
      have HK := Lib.hid hK'
      have hkd := Lib.hid (kd_no hmx he)
      have ck : W.cell? ⟨w.heap.size + 1, 0, none⟩ = some (.int .i64 0) := hI.k.cell 0
      have fk := hI.k.free 0
      have cb : W.cell? ⟨w.heap.size + 1 + 1, 0, none⟩ = some (.bool false) := hI.b.cell 0
      have fb : W.frozen? ⟨w.heap.size + 1 + 1, 0, none⟩ = false := hI.b.free 0
      clear hK hK' hmx he hvx hl hI p1 p3
      go_wp2_with fail
      refine ⟨by simp, .inl ⟨D, _, rfl, run_takeDeferred HK.out, ?_⟩⟩
      obtain ⟨f1, f2, f3⟩ := hF.out
      refine ⟨.tuple #[.int .i64 0, .bool false], ?_, ?_⟩
      · simp [results, Try.f17, go_sem, f2, f3]
      · exact ⟨by rw [hkd.out]; rfl, f1⟩
end
end Go.Proofs.Ytogobjokjpddbaa
