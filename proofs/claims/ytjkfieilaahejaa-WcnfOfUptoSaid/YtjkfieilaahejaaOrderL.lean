/-
  The order of productions.
-/
import Derived.Test.YtjkfieilaahejaaOrderC
import Derived.Sort.Statements
namespace Go.Proofs.Ytjkfieilaahejaa
open Go.RowKit
set_option linter.unusedVariables false
set_option linter.unusedSimpArgs false
/-- A comparison of which 'not above' is an order. -/
structure Tot {α : Type} (c : α → α → Int) : Prop where
  same : ∀ x, c x x = 0
  turn : ∀ x y, c x y < 0 ↔ 0 < c y x
  le : ∀ x y z, c x y ≤ 0 → c y z ≤ 0 → c x z ≤ 0
theorem Tot.lt_le {α : Type} {c : α → α → Int} (h : Tot c) {x y z : α} (h1 : c x y < 0) (h2 : c y z ≤ 0) : c x z < 0 := by
  have h3 := h.le x y z (by omega) h2
  rcases Int.lt_or_le (c x z) 0 with h4 | h4
  · exact h4
  · have h5 : ¬ 0 < c x z := by omega
    have h6 : ¬ c z x < 0 := fun h6 => h5 ((h.turn z x).1 h6)
    have h7 : ¬ c x z < 0 := by omega
    have h8 : c z x ≤ 0 := by
      rcases Int.lt_or_le 0 (c z x) with h9 | h9
      · exact absurd ((h.turn x z).2 h9) h7
      · exact h9
    have h9 := h.le y z x h2 h8
    have := (h.turn x y).1 h1
    omega
theorem Tot.le_lt {α : Type} {c : α → α → Int} (h : Tot c) {x y z : α} (h1 : c x y ≤ 0) (h2 : c y z < 0) : c x z < 0 := by
  rcases Int.lt_or_le (c x z) 0 with h4 | h4
  · exact h4
  · have h8 : c z x ≤ 0 := by
      rcases Int.lt_or_le 0 (c z x) with h9 | h9
      · have := (h.turn x z).2 h9; omega
      · exact h9
    have h9 := h.le z x y h8 h1
    have := (h.turn y z).1 h2
    omega
theorem Tot.then_ {α : Type} {c d : α → α → Int} (h : Tot c) (k : Tot d) : Tot (fun x y => if c x y ≠ 0 then c x y else d x y) where
  same x := by simp [h.same, k.same]
  turn x y := by
    have h1 := h.turn x y
    have h2 := h.turn y x
    have h3 := k.turn x y
    split <;> split <;> omega
  le x y z := by
    intro h1 h2
    have a1 := h.turn x y
    have a2 := h.turn y z
    have a3 := h.turn x z
    have a4 := h.turn z x
    have e1 := fun p q => h.lt_le (x := x) (y := y) (z := z) p q
    have e2 := fun p q => h.le_lt (x := x) (y := y) (z := z) p q
    have e3 := h.le x y z
    have e4 := k.le x y z
    have e5 := h.le z y x
    have b1 := h.turn y x
    have b2 := h.turn z y
    split at h1 <;> split at h2 <;> split
    all_goals first
      | omega
      | (have := e1 (by omega) (by omega); omega)
      | (have := e2 (by omega) (by omega); omega)
theorem Tot.on {α β : Type} {c : β → β → Int} (h : Tot c) (f : α → β) : Tot (fun x y => c (f x) (f y)) := ⟨fun x => h.same _, fun x y => h.turn _ _, fun x y z => h.le _ _ _⟩
theorem Tot.swo {α : Type} {c : α → α → Int} (h : Tot c) : Go.Sort.SWO (fun x y => decide (c x y < 0)) where
  irrefl x := by simp [h.same]
  trans x y z h1 h2 := by
    simp only [decide_eq_true_eq] at *
    exact h.lt_le h1 (by omega)
  ntrans x y z h1 h2 := by
    simp only [decide_eq_false_iff_not] at *
    intro h3
    have k1 : c y x ≤ 0 := by have := h.turn x y; omega
    have k2 : c z y ≤ 0 := by have := h.turn y z; omega
    have := h.le z y x k2 k1
    have := (h.turn x z).1 h3
    omega
theorem tot_cmpI : Tot cmpI where
  same x := by unfold cmpI; simp
  turn x y := by unfold cmpI; split <;> split <;> (try split) <;> (try split) <;> omega
  le x y z := by unfold cmpI; intro h1 h2; split at h1 <;> split at h2 <;> (try split at h1) <;> (try split at h2) <;> split <;> (try split) <;> omega
def cmpS (x y : Sy) : Int := symO x.1 x.2 y.1 y.2
theorem tot_cmpS : Tot cmpS where
  same x := by unfold cmpS symO; simp [tot_cmpI.same]
  turn x y := by
    obtain ⟨l, n⟩ := x
    obtain ⟨l', n'⟩ := y
    have := tot_cmpI.turn n n'
    cases l <;> cases l' <;> simp [cmpS, symO] <;> omega
  le x y z := by
    obtain ⟨l, n⟩ := x
    obtain ⟨l', n'⟩ := y
    obtain ⟨l'', n''⟩ := z
    have := tot_cmpI.le n n' n''
    cases l <;> cases l' <;> cases l'' <;> simp [cmpS, symO] <;> omega
def cmpL : List Sy → List Sy → Int
  | [], [] => 0
  | [], _ :: _ => -1
  | _ :: _, [] => 1
  | a :: l, b :: r => if cmpS a b ≠ 0 then cmpS a b else cmpL l r
theorem cmpL_same : ∀ x, cmpL x x = 0
  | [] => rfl
  | a :: l => by simp [cmpL, tot_cmpS.same, cmpL_same l]
theorem cmpL_turn : ∀ x y, cmpL x y < 0 ↔ 0 < cmpL y x
  | [], [] => by simp [cmpL]
  | [], _ :: _ => by simp [cmpL]
  | _ :: _, [] => by simp [cmpL]
  | a :: l, b :: r => by
    have h1 := tot_cmpS.turn a b
    have h2 := tot_cmpS.turn b a
    have h3 := cmpL_turn l r
    simp only [cmpL]
    split <;> split <;> omega
theorem cmpL_le : ∀ x y z, cmpL x y ≤ 0 → cmpL y z ≤ 0 → cmpL x z ≤ 0
  | [], y, [], _, _ => by simp [cmpL]
  | [], y, _ :: _, _, _ => by simp [cmpL]
  | _ :: _, [], _, h, _ => by simp [cmpL] at h
  | _ :: _, _ :: _, [], _, h => by simp [cmpL] at h
  | a :: l, b :: r, c :: s, h1, h2 => by
    have k := cmpL_le l r s
    have h := tot_cmpS
    have a1 := h.turn a b
    have a2 := h.turn b c
    have a3 := h.turn a c
    have a4 := h.turn c a
    have e1 := fun p q => h.lt_le (x := a) (y := b) (z := c) p q
    have e2 := fun p q => h.le_lt (x := a) (y := b) (z := c) p q
    have e3 := h.le a b c
    have e5 := h.le c b a
    have b1 := h.turn b a
    have b2 := h.turn c b
    simp only [cmpL] at h1 h2 ⊢
    split at h1 <;> split at h2 <;> split
    all_goals first
      | omega
      | (have := e1 (by omega) (by omega); omega)
      | (have := e2 (by omega) (by omega); omega)
theorem tot_cmpL : Tot cmpL := ⟨cmpL_same, cmpL_turn, cmpL_le⟩
/-- The order of productions. -/
def ordP (x y : Int × List Sy) : Int := if cmpI x.1 y.1 ≠ 0 then cmpI x.1 y.1 else if cmpI x.2.length y.2.length ≠ 0 then cmpI x.2.length y.2.length else cmpL x.2 y.2
theorem tot_ordP : Tot ordP := by
  have h2 : Tot (fun x y : Int × List Sy => if cmpI x.2.length y.2.length ≠ 0 then cmpI x.2.length y.2.length else cmpL x.2 y.2) := (tot_cmpI.on fun x : Int × List Sy => (x.2.length : Int)).then_ (tot_cmpL.on fun x : Int × List Sy => x.2)
  exact (tot_cmpI.on fun x : Int × List Sy => x.1).then_ h2
theorem cmpI_zero {a b : Int} (h : cmpI a b = 0) : a = b := by unfold cmpI at h; split at h <;> (try split at h) <;> omega
theorem cmpS_zero {a b : Sy} (h : cmpS a b = 0) : a = b := by
  obtain ⟨l, n⟩ := a
  obtain ⟨l', n'⟩ := b
  cases l <;> cases l' <;> simp [cmpS, symO] at h <;> rw [cmpI_zero h]
theorem cmpL_zero : ∀ {a b : List Sy}, cmpL a b = 0 → a = b
  | [], [], _ => rfl
  | [], _ :: _, h => by simp [cmpL] at h
  | _ :: _, [], h => by simp [cmpL] at h
  | a :: l, b :: r, h => by
    simp only [cmpL] at h
    split at h
    · contradiction
    · rename_i h0
      rw [cmpS_zero (Classical.not_not.1 h0), cmpL_zero h]
theorem ordP_zero {x y : Int × List Sy} (h : ordP x y = 0) : x = y := by
  obtain ⟨a, l⟩ := x
  obtain ⟨b, r⟩ := y
  simp only [ordP] at h
  split at h
  · contradiction
  · rename_i h0
    split at h
    · contradiction
    · rw [cmpI_zero (Classical.not_not.1 h0), cmpL_zero h]
/-- The comparison of two bodies, from a place on. -/
theorem cmpL_drop {l r : List Sy} {i : Nat} {a b : Sy} (h1 : l[i]? = some a) (h2 : r[i]? = some b) : cmpL (l.drop i) (r.drop i) = if cmpS a b ≠ 0 then cmpS a b else cmpL (l.drop (i + 1)) (r.drop (i + 1)) := by
  have hl := (List.getElem?_eq_some_iff.1 h1)
  have hr := (List.getElem?_eq_some_iff.1 h2)
  obtain ⟨hl1, hl2⟩ := hl
  obtain ⟨hr1, hr2⟩ := hr
  rw [List.drop_eq_getElem_cons hl1, List.drop_eq_getElem_cons hr1, hl2, hr2]
  rfl
section
set_option maxHeartbeats 2000000
set_option maxRecDepth 100000
theorem compareFunc_any (v1 v2 : Value) (l r : List Sy) (w : World) (h1 : Body w v1 l) (h2 : Body w v2 r) (hs1 : l.length ≤ maxLen) (hs2 : r.length ≤ maxLen) :
    Calls Try.prog 67 #[v1, v2, .func (.func 68) #[] #[]] w fun e w' => e = .returned (.int .i64 (cmpL l r)) ∧ Grew w w' := by
  unfold maxLen at hs1 hs2
  obtain ⟨ao, ac, rfl⟩ := Src.form h1
  obtain ⟨bo, bc, rfl⟩ := Src.form h2
  have hA := Lib.hid h1
  have hB := Lib.hid h2
  clear h1 h2
  go_enter Try.func67, Try.ntmps67
  go_wp2_with fail
  go_loopw [13] (fun iv wr => ∃ i : Nat, iv = .int .i64 i ∧ i ≤ l.length ∧ i ≤ r.length ∧ cmpL l r = cmpL (l.drop i) (r.drop i) ∧ Grew w wr) (fun iv _ => l.length - (intOf iv).toNat)
  case atStart => exact ⟨0, rfl, Nat.zero_le _, Nat.zero_le _, rfl, Grew.refl _⟩
  case round =>
    obtain ⟨i, rfl, hi, hj, hc, hfw⟩ := hrel
    have hfw' := Lib.hid hfw
    by_cases hlt : i < l.length
    · have e1 : decide ((i : Int) < (l.length : Int)) = true := by rw [decide_eq_true_eq]; omega
      have hii : (i : Int) < (l.length : Int) := by omega
      obtain ⟨a, ha⟩ : ∃ a, l[i]? = some a := ⟨l[i], List.getElem?_eq_getElem hlt⟩
      obtain ⟨ga, oa, ca, ea, hga, a0, a1⟩ := (hA.out.move hfw.far).sym ha
      simp only [Value.slice.injEq] at ea
      obtain ⟨rfl, _, rfl⟩ := ea
      obtain ⟨ka, hka⟩ : ∃ k, k = wr.heap.size := ⟨_, rfl⟩
      by_cases hlt2 : i < r.length
      · have d1 : decide ((r.length : Int) ≤ (i : Int)) = false := by rw [decide_eq_false_iff_not]; omega
        have d1' : decide (r.length ≤ i) = false := by rw [decide_eq_false_iff_not]; omega
        have hjj : (i : Int) < (r.length : Int) := by omega
        obtain ⟨b, hb⟩ : ∃ b, r[i]? = some b := ⟨r[i], List.getElem?_eq_getElem hlt2⟩
        obtain ⟨gb, ob, cb, eb, hgb, b0, b1⟩ := (hB.out.move hfw.far).sym hb
        simp only [Value.slice.injEq] at eb
        obtain ⟨rfl, _, rfl⟩ := eb
        rw [cmpL_drop ha hb] at hc
        obtain ⟨s0, s1⟩ := a
        obtain ⟨t0, t1⟩ := b
        simp only [] at a0 a1 b0 b1
        have OS := orderSyms_any s0 s1 t0 t1
        have hso : cmpS (s0, s1) (t0, t1) = symO s0 s1 t0 t1 := rfl
        rw [hso] at hc
        obtain ⟨kb, hkb⟩ : ∃ k, k = ka + 1 := ⟨_, rfl⟩
        obtain ⟨wa, hwa⟩ : ∃ wa, wa = (wr.alloc (.cells #[.bool s0, .int .i64 s1] 50)).alloc (.cells #[.bool t0, .int .i64 t1] 50) := ⟨_, rfl⟩
        have hX : Bk wa ka 50 #[.bool s0, .int .i64 s1] := hwa ▸ (Bk.new hka).alloc _
        have hY : Bk wa kb 50 #[.bool t0, .int .i64 t1] := hwa ▸ Bk.new (by simp [hkb, hka])
        have hGa : Grew wr wa := hwa ▸ ((Grew.refl wr).alloc _).alloc _
        have x0 : wa.cell? ⟨ka, 0, none⟩ = some (.bool s0) := hX.cell 0
        have x1 : wa.cell? ⟨ka, 1, none⟩ = some (.int .i64 s1) := hX.cell 1
        have y0 : wa.cell? ⟨kb, 0, none⟩ = some (.bool t0) := hY.cell 0
        have y1 : wa.cell? ⟨kb, 1, none⟩ = some (.int .i64 t1) := hY.cell 1
        have hlb : gb < wr.heap.size := hgb
        have hGa' := Lib.hid (hfw.trans hGa)
        have hka' := Lib.hid hka
        have hkb' := Lib.hid hkb
        have hwa' := Lib.hid hwa
        have hO := OS wa
        generalize symO s0 s1 t0 t1 = c at *
        have hc' := Lib.hid hc
        clear hc hfw hGa hX hY hka hkb hwa ha hb OS hso
        go_upto_region 7 with fail
        rw [← hka'.out, ← hkb'.out, ← hwa'.out]
        clear a0 a1 b0 b1
        by_cases hz : c = 0
        · have g0 : (c == 0) = true := by simp [hz]
          have g1 : (c != 0) = false := by simp [hz]
          have hz' := Lib.hid hz
          clear hz
          go_wp2_with fail
          refine hO.mono ?_
          rintro e w2 ⟨rfl, hG2⟩
          have hG2' := Lib.hid hG2
          clear hG2 hO
          go_wp2_with fail
          go_roundw
          case rel => exact ⟨i + 1, by go_num, by omega, by omega, by rw [hc'.out, if_neg (by simp [hz'.out])], hGa'.out.trans hG2'.out⟩
          case measure => simp [intOf]; omega
        · have g0 : (c == 0) = false := by simp [hz]
          have g1 : (c != 0) = true := by simp [hz]
          have hz' := Lib.hid hz
          clear hz
          go_wp2_with fail
          refine hO.mono ?_
          rintro e w2 ⟨rfl, hG2⟩
          have hG2' := Lib.hid hG2
          clear hG2 hO
          go_wp2_with fail
          go_ret
          exact ⟨by rw [hc'.out, if_pos hz'.out]; rfl, hGa'.out.trans hG2'.out⟩
      · have d1 : decide ((r.length : Int) ≤ (i : Int)) = true := by rw [decide_eq_true_eq]; omega
        have d1' : decide (r.length ≤ i) = true := by rw [decide_eq_true_eq]; omega
        have hres := Lib.hid (show cmpL l r = 1 by
          rw [hc, List.drop_of_length_le (l := r) (by omega), List.drop_eq_getElem_cons hlt]
          rfl)
        have hGa' := Lib.hid (hfw.alloc (.cells #[.bool a.1, .int .i64 a.2] 50))
        clear hc hfw ha
        go_wp2_with fail
        go_ret
        exact ⟨by rw [hres.out]; rfl, hGa'.out⟩
    · have e1 : decide ((i : Int) < (l.length : Int)) = false := by rw [decide_eq_false_iff_not]; omega
      have hil : i = l.length := by omega
      by_cases hlt2 : l.length < r.length
      · have d1 : decide ((l.length : Int) < (r.length : Int)) = true := by rw [decide_eq_true_eq]; omega
        have d1' : decide (l.length < r.length) = true := by rw [decide_eq_true_eq]; omega
        have hres := Lib.hid (show cmpL l r = -1 by
          rw [hc, List.drop_of_length_le (l := l) (by omega), List.drop_eq_getElem_cons (by omega)]
          rfl)
        clear hc hfw hil
        go_wp2_with fail
        go_ret
        exact ⟨by rw [hres.out]; rfl, hfw'.out⟩
      · have d1 : decide ((l.length : Int) < (r.length : Int)) = false := by rw [decide_eq_false_iff_not]; omega
        have d1' : decide (l.length < r.length) = false := by rw [decide_eq_false_iff_not]; omega
        have hres := Lib.hid (show cmpL l r = 0 by
          rw [hc, List.drop_of_length_le (l := l) (by omega), List.drop_of_length_le (l := r) (by omega)]
          rfl)
        clear hc hfw hil
        go_wp2_with fail
        go_ret
        exact ⟨by rw [hres.out]; rfl, hfw'.out⟩
end
end Go.Proofs.Ytjkfieilaahejaa
