/-
  The form of the lines that begin with a word.
-/
import Derived.Test.YtjmgheogpglpnaaDoorVSeq30
namespace Go.Proofs.YtjmgheogpglpnaaDoor
open Go.RowKit Go.Shelf
set_option linter.unusedVariables false
set_option linter.unusedSimpArgs false
attribute [local go_sem] Oper.semAt_some
def form0 : Value := .agg #[.int .i64 0, .string ⟨#[]⟩, .nilFunc, .nilFunc]
theorem wordV_inj {i j : Nat} (hi : i < 10) (hj : j < 10) (h : wordV (i + 1) = wordV (j + 1)) : i = j := by
  have : ∀ i : Fin 10, ∀ j : Fin 10, wordV (i.val + 1) = wordV (j.val + 1) → i.val = j.val := by decide
  exact this ⟨i, hi⟩ ⟨j, hj⟩ h
theorem verbOf_word : ∀ i, i < 10 → verbOf (wordV (i + 1)) = i + 1 := by
  have : ∀ i : Fin 10, verbOf (wordV (i.val + 1)) = i.val + 1 := by decide
  exact fun i hi => this ⟨i, hi⟩
theorem word_verb (x : Tx) (h : verbOf x ≠ 0) : verbOf x = verbs.idxOf x + 1 ∧ verbs.idxOf x < 10 ∧ wordV (verbOf x) = x := by
  unfold verbOf at h ⊢
  by_cases hx : x ∈ verbs
  · rw [if_pos hx]
    have hl := List.idxOf_lt_length_of_mem hx
    refine ⟨rfl, hl, ?_⟩
    unfold wordV
    rw [if_neg (by omega), Nat.add_sub_cancel]
    rw [List.getD_eq_getElem?_getD, List.getElem?_eq_getElem hl]
    simp
  · rw [if_neg hx] at h; exact absurd rfl h
theorem str_beq (a b : Tx) : ((⟨a.toArray⟩ : ByteArray).toList == (⟨b.toArray⟩ : ByteArray).toList) = decide (a = b) := by
  rw [ByteArray.toList_eq, ByteArray.toList_eq]
  by_cases h : a = b <;> simp [h]
theorem verbs_any (w : World) : Calls Tryd.prog 18 #[] w fun e w' => e = .returned (.func (.func 31) #[] #[]) ∧ w' = w := by
  go_enter Tryd.func18, Tryd.ntmps18
  go_wp2_with fail
  go_ret
  exact ⟨rfl, rfl⟩
def FormPost (x : Tx) (w : World) (e : Ending) (w' : World) : Prop :=
  (if verbOf x = 0 then e = .returned (.tuple #[form0, .bool false]) else ∃ h, w.heap.size ≤ h ∧ e = .returned (.tuple #[.agg (formC h (verbOf x)).toArray, .bool true]) ∧ Boxes w' h) ∧ Far (fun _ => False) w w'
theorem Bk.put {W : World} {g D : Nat} {t : TypeId} {cs : Array Value} {o o' : Obj} (h : Bk W g t cs) (hD : W.heap[D]? = some o) (ho : o.isCells = false) : Bk (W.putObj D o') g t cs := keepC_put W D o o' (Nat.zero_le _) hD ho _ _ _ (Nat.zero_le _) h
theorem Boxes.put {W : World} {g D : Nat} {o o' : Obj} (h : Boxes W g) (hD : W.heap[D]? = some o) (ho : o.isCells = false) : Boxes (W.putObj D o') g :=
  ⟨h.1.put hD ho, h.2.1.put hD ho, h.2.2.1.put hD ho, h.2.2.2.1.put hD ho, h.2.2.2.2.1.put hD ho, h.2.2.2.2.2.put hD ho⟩
section
set_option maxHeartbeats 4000000
set_option maxRecDepth 100000
theorem formOf_any (x : Tx) (w : World) :
    Calls Tryd.prog 35 #[st x] w (FormPost x w) := by
  unfold st
  refine (callsIn_wide (n := 10)).1 (callsIn_of_wp_marks Tryd.func35 rfl trivial (wpIn_wide.2 ?_) rfl)
  simp only [Tryd.ntmps35, List.size_toArray, List.length_cons, List.length_nil, Nat.reduceAdd, Nat.reduceSub, Array.replicate_succ, Array.replicate_zero, List.push_toArray, List.append_toArray, List.nil_append, List.cons_append]
  have VB := verbs_any
  go_wp2_with (refine (VB _).mono ?_; rintro e w' ⟨rfl, rfl⟩)
  obtain ⟨h0, hh0⟩ : ∃ h, h = w.heap.size := ⟨_, rfl⟩
  obtain ⟨h1, hh1⟩ : ∃ h, h = h0 + 1 := ⟨_, rfl⟩
  obtain ⟨h2, hh2⟩ : ∃ h, h = h1 + 1 := ⟨_, rfl⟩
  rw [← hh0, ← hh1, ← hh2]
  obtain ⟨wa, hwa⟩ : ∃ W, W = w.alloc (.cells #[.string ⟨x.toArray⟩] 9) := ⟨_, rfl⟩
  obtain ⟨wb, hwb⟩ : ∃ W, W = wa.alloc (.cells #[.int .i64 0, .string ⟨#[]⟩, .nilFunc, .nilFunc] 61) := ⟨_, rfl⟩
  obtain ⟨W0, hW0⟩ : ∃ W, W = wb.alloc (.cells #[.bool false] 4) := ⟨_, rfl⟩
  rw [← hwa, ← hwb, ← hW0]
  have z0 : wa.heap.size = h1 := by rw [hwa]; simp [hh1, hh0]
  have z1 : wb.heap.size = h2 := by rw [hwb]; simp [hh2, z0]
  have z2 : W0.heap.size = h2 + 1 := by rw [hW0]; simp [z1]
  have hA : Bk W0 h0 9 #[.string ⟨x.toArray⟩] := hW0 ▸ (hwb ▸ (hwa ▸ Bk.new hh0 : Bk wa h0 9 #[.string ⟨x.toArray⟩]).alloc _ : Bk wb h0 9 #[.string ⟨x.toArray⟩]).alloc _
  have hB : Bk W0 h1 61 #[.int .i64 0, .string ⟨#[]⟩, .nilFunc, .nilFunc] := hW0 ▸ (hwb ▸ Bk.new z0.symm : Bk wb h1 61 #[.int .i64 0, .string ⟨#[]⟩, .nilFunc, .nilFunc]).alloc _
  have hC : Bk W0 h2 4 #[.bool false] := hW0 ▸ Bk.new z1.symm
  have hF : Far (fun _ => False) w W0 := hW0 ▸ (hwb ▸ (hwa ▸ (Far.refl _ w).alloc _ : Far (fun _ => False) w wa).alloc _ : Far (fun _ => False) w wb).alloc _
  have hh0' := Lib.hid hh0
  have hh1' := Lib.hid hh1
  have hh2' := Lib.hid hh2
  have z2' := Lib.hid z2
  clear hwa hwb hW0 z0 z1 VB hh0 hh1 hh2 z2
  refine (wpIn_wide (n := 10)).1 ?_
  refine range_ok (by decide) rfl (enters_of Tryd.func31 (by kernel_rfl) rfl) (verbs_seq (10 - 1) (by decide) W0) keepC_t (fun W l o o' hl h ho => keepC_put W l o o' hl h ho) (fun _ => rfl)
    (fun pre W => Far (fun _ => False) W0 W ∧ ∀ j ∈ pre, wordV (j + 1) ≠ x)
    (fun c pre W => c = .ret ∧ Far (fun k => k = h1 ∨ k = h2) W0 W ∧ ∃ i h, i < 10 ∧ wordV (i + 1) = x ∧ W0.heap.size ≤ h ∧ Bk W h1 61 (formC h (i + 1)).toArray ∧ Bk W h2 4 #[.bool true] ∧ Boxes W h)
    ?own ?ownx ⟨Far.refl _ _, fun _ h => by cases h⟩ (fun pre y a' W => VOk pre y W ∧ a' = { tmps := #[.string ⟨x.toArray⟩, .pointer (some ⟨h0, 0, none⟩), .pointer (some ⟨h1, 0, none⟩), .pointer (some ⟨h2, 0, none⟩), .int .i64 ((y : Int) + 1), .string ⟨(wordV (y + 1)).toArray⟩, .func (.func 31) #[] #[], .int .i64 ((y : Int) + 1), .string ⟨(wordV (y + 1)).toArray⟩, undef, undef, undef, undef, undef, undef, undef, undef, undef], defers := [] })
    (fun pre y a' s A B row hs hg hr => hs) ?assign ?body ?done ?stop
  case own => exact fun s A B row hs hg hr => ⟨far_own hs.1 hg hr, hs.2⟩
  case ownx =>
    rintro c s A B row ⟨e, h1, i, h, h2, h3, h4, h5, h6, b1, b2, b3, b4, b5, b6⟩ hg hr
    exact ⟨e, far_own h1 hg hr, i, h, h2, h3, h4, h5.kept hg hr, h6.kept hg hr, b1.kept hg hr, b2.kept hg hr, b3.kept hg hr, b4.kept hg hr, b5.kept hg hr, b6.kept hg hr⟩
  case assign =>
    intro l pre y W KK hI hok hK
    have hK' := hK _ W (KeepsFrom.refl _ _) (fun _ _ _ _ h => h) hI ⟨hok, rfl⟩
    simp only [vencs, st, List.zip_toArray, List.zip_cons_cons, List.zip_nil_right, List.foldl_toArray', List.foldl_cons, List.foldl_nil, List.setIfInBounds_toArray, List.set_cons_succ, List.set_cons_zero]
    gi_wp2
    exact hK'
  case body =>
    rintro l pre y a' W hl ⟨hG, hno⟩ ⟨⟨rfl, hy⟩, rfl⟩
    have b0 := Lib.hid (hA.far' hG id)
    have b1 := Lib.hid (hB.far' hG id)
    have b2 := Lib.hid (hC.far' hG id)
    have c0 : W.cell? ⟨h0, 0, none⟩ = some (.string ⟨x.toArray⟩) := b0.out.cell 0
    have hG' := Lib.hid hG
    have hno' := Lib.hid hno
    clear hA hB hC hG hno
    by_cases he : wordV (y + 1) = x
    · have e1 : ((⟨(wordV (y + 1)).toArray⟩ : ByteArray).toList == (⟨x.toArray⟩ : ByteArray).toList) = true := by rw [str_beq]; simpa using he
      have e2 : (wordV (y + 1) == x) = true := by simpa using he
      have he' := Lib.hid he
      have hii : (y : Int) < 10 := by omega
      have FM := forms_any W
      have hne : h2 ≠ h1 := by have := hh2'.out; omega
      have hne' : h1 ≠ h2 := fun e => hne e.symm
      have hl1 : h1 < W.heap.size := b1.out.lt
      have hl2 : h2 < W.heap.size := b2.out.lt
      clear he
      gi_wp2_with (refine ⟨trivial, ?_⟩; refine (CallsIn.inRound l (callsIn_wide.2 FM)).mono ?_; rintro e w1 ⟨h, hh, rfl, hBf, hBx, hf⟩; obtain ⟨q0, q1, q2, q3⟩ := form_at h y hy; obtain ⟨rf, rc, hr⟩ := rdV_form h (y + 1); obtain ⟨wf, hw⟩ := wrV_form (y + 1); rw [hr] at q2; rw [hw] at q3; have c10 : w1.cell? ⟨h + 6, y * 4, none⟩ = some (.int .i64 ((y : Int) + 1)) := (hBf.cell _).trans q0; have c11 : w1.cell? ⟨h + 6, y * 4 + 1, none⟩ = some (.string ⟨(wordV (y + 1)).toArray⟩) := (hBf.cell _).trans q1; have c12 : w1.cell? ⟨h + 6, y * 4 + 2, none⟩ = some (.func (.func rf) #[] rc) := (hBf.cell _).trans q2; have c13 : w1.cell? ⟨h + 6, y * 4 + 3, none⟩ = some (.func (.func wf) #[] #[]) := (hBf.cell _).trans q3; have g1 := b1.out.far' hf id; have g2 := b2.out.far' hf id; have g10 : w1.cell? ⟨h1, 0, none⟩ = some (.int .i64 0) := g1.cell 0; have g11 : w1.cell? ⟨h1, 1, none⟩ = some (.string ⟨#[]⟩) := g1.cell 1; have g12 : w1.cell? ⟨h1, 2, none⟩ = some .nilFunc := g1.cell 2; have g13 : w1.cell? ⟨h1, 3, none⟩ = some .nilFunc := g1.cell 3; have gf0 := g1.free 0; have gf1 := g1.free 1; have gf2 := g1.free 2; have gf3 := g1.free 3; have g20 : w1.cell? ⟨h2, 0, none⟩ = some (.bool false) := g2.cell 0; have gf20 := g2.free 0; have hh' := Lib.hid hh; have hBx' := Lib.hid hBx; have hf' := Lib.hid hf; have hr' := Lib.hid hr; have hw' := Lib.hid hw; have g1' := Lib.hid g1; have g2' := Lib.hid g2; clear hh hBx hf hr hw q0 q1 q2 q3 hBf g1 g2)
      have hS := Lib.hid (((((Far.refl (fun k => k = h1 ∨ k = h2) w1).set ⟨h1, 0, none⟩ (.int .i64 ((y : Int) + 1)) (fun _ => .inl rfl)).set ⟨h1, 1, none⟩ (.string ⟨(wordV (y + 1)).toArray⟩) (fun _ => .inl rfl)).set ⟨h1, 2, none⟩ (.func (.func rf) #[] rc) (fun _ => .inl rfl)).set ⟨h1, 3, none⟩ (.func (.func wf) #[] #[]) (fun _ => .inl rfl) |>.set ⟨h2, 0, none⟩ (.bool true) (fun _ => .inr rfl))
      have hT := Lib.hid ((hf'.out.mono (G := fun k => k = h1 ∨ k = h2) fun _ _ h => h.elim).trans hS.out fun _ _ h => h)
      have hx1 := Lib.hid (((((g1'.out.set 0 (.int .i64 ((y : Int) + 1))).set 1 (.string ⟨(wordV (y + 1)).toArray⟩)).set 2 (.func (.func rf) #[] rc)).set 3 (.func (.func wf) #[] #[])).far (p := ⟨h2, 0, none⟩) hne' (.bool true))
      have hx2 := Lib.hid (((((g2'.out.far (p := ⟨h1, 0, none⟩) hne (.int .i64 ((y : Int) + 1))).far (p := ⟨h1, 1, none⟩) hne (.string ⟨(wordV (y + 1)).toArray⟩)).far (p := ⟨h1, 2, none⟩) hne (.func (.func rf) #[] rc)).far (p := ⟨h1, 3, none⟩) hne (.func (.func wf) #[] #[])).set 0 (.bool true))
      have hWh : W0.heap.size ≤ h := by have := hG'.out.size; have := hh'.out; omega
      have hz := z2'.out
      have hq := hh2'.out
      refine ⟨keeps_far hT.out fun k hk => ?_, rfl, (hG'.out.mono (G := fun k => k = h1 ∨ k = h2) fun _ _ h => h.elim).trans hT.out fun _ _ h => h, y, h, hy, he'.out, hWh, ?_, hx2.out, hBx'.out.far hS.out fun k h3 _ e => by rcases e with e | e <;> omega⟩
      · rcases hk with rfl | rfl
        · exact ⟨_, _, b1.out⟩
        · exact ⟨_, _, b2.out⟩
      · have e3 : (formC h (y + 1)).toArray = #[.int .i64 ((y : Int) + 1), .string ⟨(wordV (y + 1)).toArray⟩, .func (.func rf) #[] rc, .func (.func wf) #[] #[]] := by
          unfold formC st
          rw [hr'.out, hw'.out]
          rfl
        rw [e3]
        exact hx1.out
    · have e1 : ((⟨(wordV (y + 1)).toArray⟩ : ByteArray).toList == (⟨x.toArray⟩ : ByteArray).toList) = false := by rw [str_beq]; simpa using he
      have e2 : (wordV (y + 1) == x) = false := by simpa using he
      have he' := Lib.hid he
      clear he
      gi_wp2
      refine ⟨KeepsFrom.refl _ _, fun _ _ _ _ h => h, hG'.out, fun j hj => ?_⟩
      rcases List.mem_append.1 hj with h | h
      · exact hno'.out j h
      · rw [List.mem_singleton.1 h]; exact he'.out
  case done =>
    rintro D xs W hD rfl ⟨hG, hno⟩ hK
    have hv : verbOf x = 0 := by
      by_cases hv : verbOf x = 0
      · exact hv
      · obtain ⟨e1, e2, e3⟩ := word_verb x hv
        exact absurd (by rw [e1] at e3; exact e3) (hno (verbs.idxOf x) (by rw [List.mem_range]; exact e2))
    have hv' := Lib.hid hv
    have b1 := Lib.hid (hB.far' hG id)
    have b2 := Lib.hid (hC.far' hG id)
    have f1 := b1.out.free 0
    have f2 := b1.out.free 1
    have f3 := b1.out.free 2
    have f4 := b1.out.free 3
    have g1 : W.cell? ⟨h1, 0, none⟩ = some (.int .i64 0) := b1.out.cell 0
    have g2 : W.cell? ⟨h1, 1, none⟩ = some (.string ⟨#[]⟩) := b1.out.cell 1
    have g3 : W.cell? ⟨h1, 2, none⟩ = some .nilFunc := b1.out.cell 2
    have g4 : W.cell? ⟨h1, 3, none⟩ = some .nilFunc := b1.out.cell 3
    have f5 := b2.out.free 0
    have g5 : W.cell? ⟨h2, 0, none⟩ = some (.bool false) := b2.out.cell 0
    have hne : h2 ≠ h1 := by have := hh2'.out; omega
    have hne' : h1 ≠ h2 := fun e => hne e.symm
    have hDn : D ≠ h1 ∧ D ≠ h2 := by have := hh2'.out; have := z2'.out; constructor <;> omega
    have hG' := Lib.hid hG
    have hK' := Lib.hid hK
    clear hA hB hC hG hno hv hK
    go_wp2_with fail
    obtain ⟨V, hV⟩ : ∃ V, V = ((((W.setCell ⟨h1, 0, none⟩ (.int .i64 0)).setCell ⟨h1, 1, none⟩ (.string ⟨#[]⟩)).setCell ⟨h1, 2, none⟩ .nilFunc).setCell ⟨h1, 3, none⟩ .nilFunc).setCell ⟨h2, 0, none⟩ (.bool false) := ⟨_, rfl⟩
    rw [← hV]
    have hS : Far (fun k => k = h1 ∨ k = h2) W V := hV ▸ (((((Far.refl (fun k => k = h1 ∨ k = h2) W).set ⟨h1, 0, none⟩ (.int .i64 0) (fun _ => .inl rfl)).set ⟨h1, 1, none⟩ (.string ⟨#[]⟩) (fun _ => .inl rfl)).set ⟨h1, 2, none⟩ .nilFunc (fun _ => .inl rfl)).set ⟨h1, 3, none⟩ .nilFunc (fun _ => .inl rfl) |>.set ⟨h2, 0, none⟩ (.bool false) (fun _ => .inr rfl))
    have d1 : Bk V h1 61 #[.int .i64 0, .string ⟨#[]⟩, .nilFunc, .nilFunc] := hV ▸ (((((b1.out.set 0 (.int .i64 0)).set 1 (.string ⟨#[]⟩)).set 2 .nilFunc).set 3 .nilFunc).far (p := ⟨h2, 0, none⟩) hne' (.bool false))
    have d2 : Bk V h2 4 #[.bool false] := hV ▸ (((((b2.out.far (p := ⟨h1, 0, none⟩) hne (.int .i64 0)).far (p := ⟨h1, 1, none⟩) hne (.string ⟨#[]⟩)).far (p := ⟨h1, 2, none⟩) hne .nilFunc).far (p := ⟨h1, 3, none⟩) hne .nilFunc).set 0 (.bool false))
    have hKV : V.heap[D]? = some (.deferred (some [])) := (hS.block D (Array.getElem?_eq_some_iff.1 hK'.out).1 (by rintro (e | e); exact hDn.1 e; exact hDn.2 e)).trans hK'.out
    have r1 : Bk (V.putObj D (.deferred none)) h1 61 #[.int .i64 0, .string ⟨#[]⟩, .nilFunc, .nilFunc] := (World.putObj_heap_other (fun e => hDn.1 e.symm)).trans d1
    have r2 : Bk (V.putObj D (.deferred none)) h2 4 #[.bool false] := (World.putObj_heap_other (fun e => hDn.2 e.symm)).trans d2
    have hZ : Far (fun k => w.heap.size ≤ k) w (V.putObj D (.deferred none)) := ((((hF.then hG'.out).mono (G := fun k => w.heap.size ≤ k) fun _ _ h => h.elim).trans (hS.mono (G := fun k => w.heap.size ≤ k) fun k _ hk => by have := hh0'.out; have := hh1'.out; have := hh2'.out; rcases hk with rfl | rfl <;> omega) fun _ _ h => h)).grown (grownBy_putObj' V D (.deferred none)) (fun k hk e => by cases e; have := hF.size; omega)
    refine ⟨by simp, .inl ⟨D, _, rfl, run_takeDeferred hKV, ?_⟩⟩
    refine ⟨.tuple #[form0, .bool false], ?_, ?_⟩
    · have a1 := r1.cell 0
      have a2 := r1.cell 1
      have a3 := r1.cell 2
      have a4 := r1.cell 3
      have a5 := r2.cell 0
      simp [results, Tryd.f35, go_sem, a1, a2, a3, a4, a5, form0]
    · show FormPost x w _ _
      unfold FormPost
      rw [if_pos hv'.out]
      exact ⟨rfl, hZ.mono fun k hk h => by omega⟩
  case stop =>
    rintro D c pre W hD ⟨k, hk, rfl⟩ ⟨rfl, hG, i, h, hi, he, hWh, d1, d2, hBx⟩ hK
    have hv : verbOf x = i + 1 := by rw [← he]; exact verbOf_word i hi
    have hDn : D ≠ h1 ∧ D ≠ h2 := by have := hh2'.out; have := z2'.out; constructor <;> omega
    have r1 : Bk (W.putObj D (.deferred none)) h1 61 (formC h (i + 1)).toArray := (World.putObj_heap_other (fun e => hDn.1 e.symm)).trans d1
    have r2 : Bk (W.putObj D (.deferred none)) h2 4 #[.bool true] := (World.putObj_heap_other (fun e => hDn.2 e.symm)).trans d2
    have hZ : Far (fun k => w.heap.size ≤ k) w (W.putObj D (.deferred none)) := ((hF.mono (G := fun k => w.heap.size ≤ k) fun _ _ h => h.elim).trans (hG.mono (G := fun k => w.heap.size ≤ k) fun k _ hk => by have := hh0'.out; have := hh1'.out; have := hh2'.out; rcases hk with rfl | rfl <;> omega) fun _ _ h => h).grown (grownBy_putObj' W D (.deferred none)) (fun k hk e => by cases e; have := hF.size; omega)
    have hZ' := Lib.hid hZ
    have hBx' := Lib.hid (hBx.put (o' := .deferred none) hK rfl)
    have hWh' := Lib.hid hWh
    have hv' := Lib.hid hv
    clear hG hZ hBx d1 d2 hA hB hC hWh hv
    refine wpIn_wide.2 ?_
    go_wp2_with fail
    refine ⟨by simp, .inl ⟨D, _, rfl, run_takeDeferred hK, ?_⟩⟩
    refine ⟨.tuple #[.agg (formC h (i + 1)).toArray, .bool true], ?_, ?_⟩
    · have a1 := r1.cell 0
      have a2 := r1.cell 1
      have a3 := r1.cell 2
      have a4 := r1.cell 3
      have a5 := r2.cell 0
      obtain ⟨rf, rc, hr⟩ := rdV_form h (i + 1)
      obtain ⟨wf, hw⟩ := wrV_form (i + 1)
      simp [formC] at a1 a2 a3 a4 a5
      rw [hr] at a3
      rw [hw] at a4
      unfold st at a2
      simp [results, Tryd.f35, go_sem, a1, a2, a3, a4, a5, formC, st, hr, hw]
    · show FormPost x w _ _
      unfold FormPost
      rw [hv'.out, if_neg (by omega)]
      exact ⟨⟨h, by have := hWh'.out; have := hF.size; omega, rfl, hBx'.out⟩, hZ'.out.mono fun k hk h => by omega⟩
end
end Go.Proofs.YtjmgheogpglpnaaDoor
