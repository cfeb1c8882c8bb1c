/-
  The document's Parse. Made by gen/rparse30.py.
-/
import Derived.Test.YtjmgheogpglpnaaDoorRSmall30
import Derived.Test.YtjmgheogpglpnaaDoorParse30
namespace Go.Proofs.YtjmgheogpglpnaaDoor
open Go.RowKit
set_option linter.unusedVariables false
set_option linter.unusedSimpArgs false
theorem set5 {w : World} {k : Nat} (h : Bk w k 27 #[.int .i64 0, .int .i64 0, .slice none 0 0, .slice none 0 0, .string ⟨#[]⟩]) (a b c d e : Value) :
    Bk ((((((((((w).setCell ⟨k, 0, none⟩ a)).setCell ⟨k, 1, none⟩ b)).setCell ⟨k, 2, none⟩ c)).setCell ⟨k, 3, none⟩ d)).setCell ⟨k, 4, none⟩ e) k 27 #[a, b, c, d, e] ∧ Far (fun i => i = k) w ((((((((((w).setCell ⟨k, 0, none⟩ a)).setCell ⟨k, 1, none⟩ b)).setCell ⟨k, 2, none⟩ c)).setCell ⟨k, 3, none⟩ d)).setCell ⟨k, 4, none⟩ e) :=
  ⟨((((h.set 0 a).set 1 b).set 2 c).set 3 d).set 4 e, (((((Far.refl (fun i => i = k) w).set ⟨k, 0, none⟩ a (fun _ => rfl)).set ⟨k, 1, none⟩ b (fun _ => rfl)).set ⟨k, 2, none⟩ c (fun _ => rfl)).set ⟨k, 3, none⟩ d (fun _ => rfl)).set ⟨k, 4, none⟩ e (fun _ => rfl)⟩
theorem refF_cons {l x0 : Tx} {xs : List Tx} (h : splitW l = x0 :: xs) : refF l = refV (verbOf x0) xs (l.drop (x0.length + 1)) := by unfold refF; rw [h]; rfl
theorem runL_len : ∀ {ts : List Lt} {xs : List Tx} {c c' : Cm}, runL ts xs c = some c' → xs.length = ts.length
  | [], [], _, _, _ => rfl
  | [], _ :: _, _, _, h => by simp [runL] at h
  | _ :: _, [], _, _, h => by simp [runL] at h
  | t :: ts, x :: xs, c, c', h => by
    unfold runL at h
    split at h
    · cases h
    · simp [runL_len h]
theorem drop_at {α : Type} {l : List α} {i : Nat} {x : α} (h : l[i]? = some x) : l.drop i = x :: l.drop (i + 1) := by
  obtain ⟨hi, rfl⟩ := List.getElem?_eq_some_iff.1 h
  exact List.drop_eq_getElem_cons hi
theorem byte_at {fs : ByteArray} {v i : Nat} {t : Lt} (h : fs = ⟨(formT v).toArray⟩) (ht : (formV v)[i]? = some t) (hi : i < fs.size) : fs[i] = ltB t := by
  have h2 : (formT v)[i]? = some (ltB t) := by rw [formT_map, List.getElem?_map, ht]; rfl
  subst h
  obtain ⟨h3, h4⟩ := List.getElem?_eq_some_iff.1 h2
  exact h4
theorem form_h {v i : Nat} (h : (formV v)[i]? = some .h) : i = 0 := by
  unfold formV at h
  match i, h with
  | 0, _ => rfl
  | 1, h => (repeat' split at h) <;> simp at h
  | 2, h => (repeat' split at h) <;> simp at h
  | 3, h => (repeat' split at h) <;> simp at h
  | 4, h => (repeat' split at h) <;> simp at h
  | _ + 5, h => (repeat' split at h) <;> simp at h
theorem stepK (x : Tx) (c : Cm) : stepL .k x c = match numR x with
    | none => none
    | some n => some { c with nums := c.nums ++ [n] } := by
  unfold stepL
  by_cases h : x = []
  · subst h; rfl
  · rw [if_neg h, numT_numR]; rfl
theorem split_mem {l x : Tx} (h : x ∈ splitW l) : x.length ≤ l.length := by
  have : ∀ (n : Nat) (l : Tx), l.length = n → ∀ x ∈ splitW l, x.length ≤ l.length := by
    intro n
    induction n using Nat.strongRecOn with
    | _ n ih =>
      intro l hl x hx
      rcases blank_cases l with hn | ⟨a, b, rfl, ha⟩
      · rw [splitW_no hn] at hx; simp at hx; rw [hx]; exact Nat.le_refl _
      · rw [splitW_yes ha] at hx
        rcases List.mem_cons.1 hx with rfl | hx
        · simp
        · have := ih b.length (by rw [← hl]; simp; omega) b rfl x hx
          simp; omega
  exact this _ l rfl x h
def hwF (x : Tx) (j : Nat) : Nat := if 1 ≤ j ∧ x = tMatrix then 1 else if 2 ≤ j ∧ x = tTensor then 2 else if 3 ≤ j ∧ x = tGll then 3 else 0
theorem hw_hit {x : Tx} {j : Nat} (hj : j < 3) (h : hoT (j + 1) = x) : hwF x (j + 1) = j + 1 := by
  subst h
  have : j = 0 ∨ j = 1 ∨ j = 2 := by omega
  rcases this with rfl | rfl | rfl <;> decide
theorem hw_miss {x : Tx} {j : Nat} (hj : j < 3) (h : hoT (j + 1) ≠ x) : hwF x (j + 1) = hwF x j := by
  have : j = 0 ∨ j = 1 ∨ j = 2 := by omega
  rcases this with rfl | rfl | rfl
  · have h' : x ≠ tMatrix := fun e => h e.symm
    simp [hwF, h']
  · have h' : x ≠ tTensor := fun e => h e.symm
    simp [hwF, h']
  · have h' : x ≠ tGll := fun e => h e.symm
    simp [hwF, h']
theorem stepH (x : Tx) (c : Cm) : stepL .h x c = if hwF x 3 = 0 then none else some { c with how := hwF x 3 } := by
  by_cases h1 : x = tMatrix
  · subst h1; rfl
  by_cases h2 : x = tTensor
  · subst h2; rfl
  by_cases h3 : x = tGll
  · subst h3; rfl
  have e : hwF x 3 = 0 := by simp [hwF, h1, h2, h3]
  rw [if_pos e]
  unfold stepL
  by_cases h : x = []
  · rw [if_pos h]
  · rw [if_neg h]
    have : howOf x = none := by unfold howOf; rw [if_neg]; simp [hows, h, h1, h2, h3]
    rw [this]
theorem split_len {l x0 y : Tx} {xs : List Tx} (h : splitW l = x0 :: y :: xs) : x0.length + 1 ≤ l.length := by
  rcases blank_cases l with hn | ⟨a, b, rfl, ha⟩
  · rw [splitW_no hn] at h; cases h
  · rw [splitW_yes ha] at h; injection h with h1 h2; subst h1; simp
section
set_option maxHeartbeats 4000000
set_option maxRecDepth 100000
theorem rparse_any (l : Tx) (w : World) (hs : l.length ≤ 140737488351232) : Calls Tryd.prog 11 #[st l] w (PPost w (parseL l)) := by
  obtain ⟨kr, hkr⟩ : ∃ k, k = w.heap.size := ⟨_, rfl⟩
  obtain ⟨w1, hw1⟩ : ∃ W, W = w.alloc (.cells #[.int .i64 0, .int .i64 0, .slice none 0 0, .slice none 0 0, .string ⟨#[]⟩] 27) := ⟨_, rfl⟩
  have hF1 : Far (fun _ => False) w w1 := hw1 ▸ (Far.refl _ w).alloc _
  have hC1 : Bk w1 kr 27 #[.int .i64 0, .int .i64 0, .slice none 0 0, .slice none 0 0, .string ⟨#[]⟩] := hw1 ▸ Bk.new hkr
  have hz1 : w1.heap.size = kr + 1 := by rw [hw1]; simp [hkr]
  obtain ⟨z, hz⟩ : ∃ z, z = parseL l := ⟨_, rfl⟩
  rw [← hz]
  obtain ⟨s, hS⟩ : ∃ s : ByteArray, s = ⟨l.toArray⟩ := ⟨_, rfl⟩
  have hsz : s.size = l.length := by rw [hS]; simp [ByteArray.size]
  have hst : st l = .string s := by unfold st; rw [hS]
  have hss : s.size ≤ 140737488351232 := by omega
  have RB1 := Lib.hid hC1
  have hkr' := Lib.hid hkr
  have hw1' := Lib.hid hw1
  have hF1' := Lib.hid hF1
  have hz1' := Lib.hid hz1
  have hsz' := Lib.hid hsz
  have hS' := Lib.hid hS
  have pc0 : w1.cell? ⟨kr, 0, none⟩ = some (.int .i64 0) := hC1.cell 0
  have pf0 := hC1.free 0
  have pc1 : w1.cell? ⟨kr, 1, none⟩ = some (.int .i64 0) := hC1.cell 1
  have pf1 := hC1.free 1
  have pc2 : w1.cell? ⟨kr, 2, none⟩ = some (.slice none 0 0) := hC1.cell 2
  have pf2 := hC1.free 2
  have pc3 : w1.cell? ⟨kr, 3, none⟩ = some (.slice none 0 0) := hC1.cell 3
  have pf3 := hC1.free 3
  have pc4 : w1.cell? ⟨kr, 4, none⟩ = some (.string ⟨#[]⟩) := hC1.cell 4
  have pf4 := hC1.free 4
  have pl := hC1.lt

  clear hC1 hkr hw1 hF1 hz1
  by_cases hl : 2064 < l.length
  · have e2 : decide ((2064 : Int) < (s.size : Int)) = true := by rw [decide_eq_true_eq]; omega
    have hz' := Lib.hid (show z = .inl 3 by rw [hz]; unfold parseL; rw [if_pos hl])
    rw [hst]
    clear hl hs hst hS hsz hz
    go_enter Tryd.func11, Tryd.ntmps11
    go_upto_region 1 with fail
    rw [← hkr'.out, ← hw1'.out]
    go_wp2_with fail
    obtain ⟨V, hV⟩ : ∃ V, V = ((((((((((w1).setCell ⟨kr, 0, none⟩ (.int .i64 0))).setCell ⟨kr, 1, none⟩ (.int .i64 0))).setCell ⟨kr, 2, none⟩ (.slice none 0 0))).setCell ⟨kr, 3, none⟩ (.slice none 0 0))).setCell ⟨kr, 4, none⟩ (.string ⟨#[]⟩)) := ⟨_, rfl⟩
    rw [← hV]
    have e5 : Bk V kr 27 #[(.int .i64 0), (.int .i64 0), (.slice none 0 0), (.slice none 0 0), (.string ⟨#[]⟩)] ∧ Far (fun k => k = kr) w1 V := hV ▸ set5 RB1.out (.int .i64 0) (.int .i64 0) (.slice none 0 0) (.slice none 0 0) (.string ⟨#[]⟩)
    have x0 : V.cell? ⟨kr, 0, none⟩ = some (.int .i64 0) := e5.1.cell 0
    have x1 : V.cell? ⟨kr, 1, none⟩ = some (.int .i64 0) := e5.1.cell 1
    have x2 : V.cell? ⟨kr, 2, none⟩ = some (.slice none 0 0) := e5.1.cell 2
    have x3 : V.cell? ⟨kr, 3, none⟩ = some (.slice none 0 0) := e5.1.cell 3
    have x4 : V.cell? ⟨kr, 4, none⟩ = some (.string ⟨#[]⟩) := e5.1.cell 4
    refine ⟨rfl, .tuple #[.agg #[(.int .i64 0), (.int .i64 0), (.slice none 0 0), (.slice none 0 0), (.string ⟨#[]⟩)], .int .i64 3], by simp [results, Tryd.results11, go_sem, x0, x1, x2, x3, x4], ?_⟩
    rw [hz'.out]
    exact ⟨(hF1'.out).out e5.2 (fun k hk e => by have := hkr'.out; omega), _, rfl, _, _, rfl, World.ownsRow_nil _ _ _ _, World.ownsRow_nil _ _ _ _⟩
  have e2 : decide ((2064 : Int) < (s.size : Int)) = false := by rw [decide_eq_false_iff_not]; omega
  obtain ⟨x0, xs, hsp⟩ : ∃ x0 xs, splitW l = x0 :: xs := by
    cases h : splitW l with
    | nil => exact absurd h (splitW_ne l)
    | cons a b => exact ⟨a, b, rfl⟩
  have hz2 : z = refV (verbOf x0) xs (l.drop (x0.length + 1)) := by rw [hz]; unfold parseL; rw [if_neg hl, parse_ref, refF_cons hsp]
  obtain ⟨m, hm⟩ : ∃ m, m = xs.length + 1 := ⟨_, rfl⟩
  have hm0 : 0 < m := by omega
  have hm1 : (0 : Int) < (m : Int) := by omega
  have RW := rwords_any l w1 (by omega)
  rw [hsp, List.length_cons, ← hm, hst] at RW
  have RV := Lib.hid (fun w => rverb_any x0 w)
  unfold st at RV
  obtain ⟨v, hv⟩ : ∃ v, v = verbOf x0 := ⟨_, rfl⟩
  have hv10 : v ≤ 10 := by rw [hv]; exact verbOf_le x0
  rw [← hv] at RV hz2
  have hsp' := Lib.hid hsp
  have hm' := Lib.hid hm
  have hz2' := Lib.hid hz2
  replace RW := Lib.hid RW
  have RB1' := RB1
  rw [hst]
  clear pl pc0 pf0 pc1 pf1 pc2 pf2 pc3 pf3 pc4 pf4 hst hz hl hs hS hsp hm hv hz2 hsz
  by_cases hv0 : v = 0
  · have q0 : ((v : Int) == 0) = true := by simp; omega
    have hz' := Lib.hid (show z = .inl 400 by rw [hz2'.out]; unfold refV; rw [if_pos hv0])
    clear hv0
    go_enter Tryd.func11, Tryd.ntmps11
    go_upto_region 1 with fail
    rw [← hkr'.out, ← hw1'.out]
    go_wp2_with (first | (go_at_call 21; refine RW.out.mono ?_; rintro e w2 ⟨wv, rfl, ho, hf2⟩; obtain ⟨g, cap, rfl, hg1, hg2⟩ := World.ownsRow.form ho hm0; have d0 : w2.cell? ⟨g, 0, none⟩ = some (.string ⟨x0.toArray⟩) := ho.cells (g := g) rfl 0 _ rfl; have ho' := Lib.hid ho; have hf2' := Lib.hid hf2; have RB := Lib.hid (RB1.out.far' hf2 id); have hg1' := Lib.hid hg1; have hg2' := Lib.hid hg2; clear ho hf2 hg1; have qc0 : w2.cell? ⟨kr, 0, none⟩ = some (.int .i64 0) := RB.out.cell 0; have qf0 := RB.out.free 0; have qc1 : w2.cell? ⟨kr, 1, none⟩ = some (.int .i64 0) := RB.out.cell 1; have qf1 := RB.out.free 1; have qc2 : w2.cell? ⟨kr, 2, none⟩ = some (.slice none 0 0) := RB.out.cell 2; have qf2 := RB.out.free 2; have qc3 : w2.cell? ⟨kr, 3, none⟩ = some (.slice none 0 0) := RB.out.cell 3; have qf3 := RB.out.free 3; have qc4 : w2.cell? ⟨kr, 4, none⟩ = some (.string ⟨#[]⟩) := RB.out.cell 4; have qf4 := RB.out.free 4; have ql := RB.out.lt) | (go_at_call 22; refine (RV.out _).mono ?_; rintro e w9 ⟨rfl, e9⟩; replace e9 := e9.symm; subst e9))
    obtain ⟨V, hV⟩ : ∃ V, V = ((((((((((w2).setCell ⟨kr, 0, none⟩ (.int .i64 0))).setCell ⟨kr, 1, none⟩ (.int .i64 0))).setCell ⟨kr, 2, none⟩ (.slice none 0 0))).setCell ⟨kr, 3, none⟩ (.slice none 0 0))).setCell ⟨kr, 4, none⟩ (.string ⟨#[]⟩)) := ⟨_, rfl⟩
    rw [← hV]
    have e5 : Bk V kr 27 #[(.int .i64 0), (.int .i64 0), (.slice none 0 0), (.slice none 0 0), (.string ⟨#[]⟩)] ∧ Far (fun k => k = kr) w2 V := hV ▸ set5 RB.out (.int .i64 0) (.int .i64 0) (.slice none 0 0) (.slice none 0 0) (.string ⟨#[]⟩)
    have x0 : V.cell? ⟨kr, 0, none⟩ = some (.int .i64 0) := e5.1.cell 0
    have x1 : V.cell? ⟨kr, 1, none⟩ = some (.int .i64 0) := e5.1.cell 1
    have x2 : V.cell? ⟨kr, 2, none⟩ = some (.slice none 0 0) := e5.1.cell 2
    have x3 : V.cell? ⟨kr, 3, none⟩ = some (.slice none 0 0) := e5.1.cell 3
    have x4 : V.cell? ⟨kr, 4, none⟩ = some (.string ⟨#[]⟩) := e5.1.cell 4
    refine ⟨rfl, .tuple #[.agg #[(.int .i64 0), (.int .i64 0), (.slice none 0 0), (.slice none 0 0), (.string ⟨#[]⟩)], .int .i64 400], by simp [results, Tryd.results11, go_sem, x0, x1, x2, x3, x4], ?_⟩
    rw [hz'.out]
    exact ⟨(hF1'.out.then hf2'.out).out e5.2 (fun k hk e => by have := hkr'.out; omega), _, rfl, _, _, rfl, World.ownsRow_nil _ _ _ _, World.ownsRow_nil _ _ _ _⟩
  have q0 : ((v : Int) == 0) = false := by simp; omega
  have q0b : ¬ ((v : Int) = 0) := by omega
  by_cases hv2 : v ≤ 2
  · have q2 : decide ((v : Int) ≤ 2) = true := by rw [decide_eq_true_eq]; omega
    cases xs with
    | nil =>
      have hm2 : m = 1 := hm'.out
      have q3 : decide ((m : Int) < 2) = true := by rw [decide_eq_true_eq]; omega
      have hz' := Lib.hid (show z = .inl 401 by rw [hz2'.out]; unfold refV; rw [if_neg hv0, if_pos hv2, if_pos rfl])
      clear hm2 hv2 hv0
      go_enter Tryd.func11, Tryd.ntmps11
      go_upto_region 1 with fail
      rw [← hkr'.out, ← hw1'.out]
      go_upto_region 8 with (first | (go_at_call 21; refine RW.out.mono ?_; rintro e w2 ⟨wv, rfl, ho, hf2⟩; obtain ⟨g, cap, rfl, hg1, hg2⟩ := World.ownsRow.form ho hm0; have d0 : w2.cell? ⟨g, 0, none⟩ = some (.string ⟨x0.toArray⟩) := ho.cells (g := g) rfl 0 _ rfl; have ho' := Lib.hid ho; have hf2' := Lib.hid hf2; have RB := Lib.hid (RB1.out.far' hf2 id); have hg1' := Lib.hid hg1; have hg2' := Lib.hid hg2; clear ho hf2 hg1; skip) | (go_at_call 22; refine (RV.out _).mono ?_; rintro e w9 ⟨rfl, e9⟩; replace e9 := e9.symm; subst e9))
      obtain ⟨k6, hk6⟩ : ∃ k, k = w2.heap.size := ⟨_, rfl⟩
      obtain ⟨w3, hw3⟩ : ∃ W, W = w2.alloc (.cells #[.int .i64 (v : Int), .int .i64 0, .slice none 0 0, .slice none 0 0, .string ⟨#[]⟩] 27) := ⟨_, rfl⟩
      rw [← hk6, ← hw3]
      have hF3 : Far (fun _ => False) w2 w3 := hw3 ▸ (Far.refl _ w2).alloc _
      have RB3 := Lib.hid (RB.out.far' hF3 id)
      have CB3 : Bk w3 k6 27 (cmdNil v) := hw3 ▸ Bk.new hk6
      have hs3 : w3.heap.size = k6 + 1 := by rw [hw3]; simp [hk6]
      have d3 : w3.cell? ⟨g, 0, none⟩ = some (.string ⟨x0.toArray⟩) := (cell_eq (hF3.block g hg2 id)).trans d0
      have FF3 := Lib.hid ((hF1'.out.then hf2'.out).then hF3)
      have hk6' := Lib.hid hk6
      have hs3' := Lib.hid hs3
      have hF3' := Lib.hid hF3
      have CB3' := Lib.hid CB3
      have qc0 : w3.cell? ⟨kr, 0, none⟩ = some (.int .i64 0) := RB3.out.cell 0
      have qf0 := RB3.out.free 0
      have qc1 : w3.cell? ⟨kr, 1, none⟩ = some (.int .i64 0) := RB3.out.cell 1
      have qf1 := RB3.out.free 1
      have qc2 : w3.cell? ⟨kr, 2, none⟩ = some (.slice none 0 0) := RB3.out.cell 2
      have qf2 := RB3.out.free 2
      have qc3 : w3.cell? ⟨kr, 3, none⟩ = some (.slice none 0 0) := RB3.out.cell 3
      have qf3 := RB3.out.free 3
      have qc4 : w3.cell? ⟨kr, 4, none⟩ = some (.string ⟨#[]⟩) := RB3.out.cell 4
      have qf4 := RB3.out.free 4
      have ql := RB3.out.lt
      have rc0 : w3.cell? ⟨k6, 0, none⟩ = some (.int .i64 (v : Int)) := CB3.cell 0
      have rf0 := CB3.free 0
      have rc1 : w3.cell? ⟨k6, 1, none⟩ = some (.int .i64 0) := CB3.cell 1
      have rf1 := CB3.free 1
      have rc2 : w3.cell? ⟨k6, 2, none⟩ = some (.slice none 0 0) := CB3.cell 2
      have rf2 := CB3.free 2
      have rc3 : w3.cell? ⟨k6, 3, none⟩ = some (.slice none 0 0) := CB3.cell 3
      have rf3 := CB3.free 3
      have rc4 : w3.cell? ⟨k6, 4, none⟩ = some (.string ⟨#[]⟩) := CB3.cell 4
      have rf4 := CB3.free 4
      have rl := CB3.lt
      clear hk6 hw3 hF3 hs3 CB3
      go_wp2_with fail
      obtain ⟨V, hV⟩ : ∃ V, V = ((((((((((w3).setCell ⟨kr, 0, none⟩ (.int .i64 0))).setCell ⟨kr, 1, none⟩ (.int .i64 0))).setCell ⟨kr, 2, none⟩ (.slice none 0 0))).setCell ⟨kr, 3, none⟩ (.slice none 0 0))).setCell ⟨kr, 4, none⟩ (.string ⟨#[]⟩)) := ⟨_, rfl⟩
      rw [← hV]
      have e5 : Bk V kr 27 #[(.int .i64 0), (.int .i64 0), (.slice none 0 0), (.slice none 0 0), (.string ⟨#[]⟩)] ∧ Far (fun k => k = kr) w3 V := hV ▸ set5 RB3.out (.int .i64 0) (.int .i64 0) (.slice none 0 0) (.slice none 0 0) (.string ⟨#[]⟩)
      have x0 : V.cell? ⟨kr, 0, none⟩ = some (.int .i64 0) := e5.1.cell 0
      have x1 : V.cell? ⟨kr, 1, none⟩ = some (.int .i64 0) := e5.1.cell 1
      have x2 : V.cell? ⟨kr, 2, none⟩ = some (.slice none 0 0) := e5.1.cell 2
      have x3 : V.cell? ⟨kr, 3, none⟩ = some (.slice none 0 0) := e5.1.cell 3
      have x4 : V.cell? ⟨kr, 4, none⟩ = some (.string ⟨#[]⟩) := e5.1.cell 4
      refine ⟨rfl, .tuple #[.agg #[(.int .i64 0), (.int .i64 0), (.slice none 0 0), (.slice none 0 0), (.string ⟨#[]⟩)], .int .i64 401], by simp [results, Tryd.results11, go_sem, x0, x1, x2, x3, x4], ?_⟩
      rw [hz'.out]
      exact ⟨(FF3.out).out e5.2 (fun k hk e => by have := hkr'.out; omega), _, rfl, _, _, rfl, World.ownsRow_nil _ _ _ _, World.ownsRow_nil _ _ _ _⟩
    | cons y ys =>
      have hm2 : 2 ≤ m := by rw [hm'.out, List.length_cons]; omega
      have q3 : decide ((m : Int) < 2) = false := by rw [decide_eq_false_iff_not]; omega
      have hz' := Lib.hid (show z = .inr { cm0 with v := v, text := l.drop (x0.length + 1) } by rw [hz2'.out]; unfold refV; rw [if_neg hv0, if_pos hv2, if_neg (by simp)])
      have hxl : x0.length + 1 ≤ s.size := by rw [hsz'.out]; exact split_len hsp'.out
      have hext := Lib.hid (show s.extract (x0.length + 1) s.size = ⟨(l.drop (x0.length + 1)).toArray⟩ by rw [hsz'.out, hS'.out]; apply ByteArray.ext; simp; rw [← List.length_drop, List.take_length])
      have c1 : (0 : Int) ≤ (x0.length : Int) + 1 := by omega
      have c2 : (x0.length : Int) + 1 ≤ (s.size : Int) := by omega
      have hx0s : (⟨x0.toArray⟩ : ByteArray).size = x0.length := by simp [ByteArray.size]
      clear hm2 hv2 hv0
      go_enter Tryd.func11, Tryd.ntmps11
      go_upto_region 1 with fail
      rw [← hkr'.out, ← hw1'.out]
      go_upto_region 8 with (first | (go_at_call 21; refine RW.out.mono ?_; rintro e w2 ⟨wv, rfl, ho, hf2⟩; obtain ⟨g, cap, rfl, hg1, hg2⟩ := World.ownsRow.form ho hm0; have d0 : w2.cell? ⟨g, 0, none⟩ = some (.string ⟨x0.toArray⟩) := ho.cells (g := g) rfl 0 _ rfl; have ho' := Lib.hid ho; have hf2' := Lib.hid hf2; have RB := Lib.hid (RB1.out.far' hf2 id); have hg1' := Lib.hid hg1; have hg2' := Lib.hid hg2; clear ho hf2 hg1; skip) | (go_at_call 22; refine (RV.out _).mono ?_; rintro e w9 ⟨rfl, e9⟩; replace e9 := e9.symm; subst e9))
      obtain ⟨k6, hk6⟩ : ∃ k, k = w2.heap.size := ⟨_, rfl⟩
      obtain ⟨w3, hw3⟩ : ∃ W, W = w2.alloc (.cells #[.int .i64 (v : Int), .int .i64 0, .slice none 0 0, .slice none 0 0, .string ⟨#[]⟩] 27) := ⟨_, rfl⟩
      rw [← hk6, ← hw3]
      have hF3 : Far (fun _ => False) w2 w3 := hw3 ▸ (Far.refl _ w2).alloc _
      have RB3 := Lib.hid (RB.out.far' hF3 id)
      have CB3 : Bk w3 k6 27 (cmdNil v) := hw3 ▸ Bk.new hk6
      have hs3 : w3.heap.size = k6 + 1 := by rw [hw3]; simp [hk6]
      have d3 : w3.cell? ⟨g, 0, none⟩ = some (.string ⟨x0.toArray⟩) := (cell_eq (hF3.block g hg2 id)).trans d0
      have FF3 := Lib.hid ((hF1'.out.then hf2'.out).then hF3)
      have hk6' := Lib.hid hk6
      have hs3' := Lib.hid hs3
      have hF3' := Lib.hid hF3
      have CB3' := Lib.hid CB3
      have qc0 : w3.cell? ⟨kr, 0, none⟩ = some (.int .i64 0) := RB3.out.cell 0
      have qf0 := RB3.out.free 0
      have qc1 : w3.cell? ⟨kr, 1, none⟩ = some (.int .i64 0) := RB3.out.cell 1
      have qf1 := RB3.out.free 1
      have qc2 : w3.cell? ⟨kr, 2, none⟩ = some (.slice none 0 0) := RB3.out.cell 2
      have qf2 := RB3.out.free 2
      have qc3 : w3.cell? ⟨kr, 3, none⟩ = some (.slice none 0 0) := RB3.out.cell 3
      have qf3 := RB3.out.free 3
      have qc4 : w3.cell? ⟨kr, 4, none⟩ = some (.string ⟨#[]⟩) := RB3.out.cell 4
      have qf4 := RB3.out.free 4
      have ql := RB3.out.lt
      have rc0 : w3.cell? ⟨k6, 0, none⟩ = some (.int .i64 (v : Int)) := CB3.cell 0
      have rf0 := CB3.free 0
      have rc1 : w3.cell? ⟨k6, 1, none⟩ = some (.int .i64 0) := CB3.cell 1
      have rf1 := CB3.free 1
      have rc2 : w3.cell? ⟨k6, 2, none⟩ = some (.slice none 0 0) := CB3.cell 2
      have rf2 := CB3.free 2
      have rc3 : w3.cell? ⟨k6, 3, none⟩ = some (.slice none 0 0) := CB3.cell 3
      have rf3 := CB3.free 3
      have rc4 : w3.cell? ⟨k6, 4, none⟩ = some (.string ⟨#[]⟩) := CB3.cell 4
      have rf4 := CB3.free 4
      have rl := CB3.lt
      clear hk6 hw3 hF3 hs3 CB3
      go_upto_region 12 with fail
      obtain ⟨y0, hy0⟩ : ∃ y, y = s.extract (x0.length + 1) s.size := ⟨_, rfl⟩
      rw [← hy0] at hext ⊢
      obtain ⟨w4, hw4⟩ : ∃ W, W = w3.setCell ⟨k6, 4, none⟩ (.string y0) := ⟨_, rfl⟩
      rw [← hw4]
      have hF4 : Far (fun k => k = k6) w3 w4 := hw4 ▸ (Far.refl (fun k => k = k6) w3).set ⟨k6, 4, none⟩ (.string y0) (fun _ => rfl)
      have CB4 : Bk w4 k6 27 #[(.int .i64 (v : Int)), (.int .i64 0), (.slice none 0 0), (.slice none 0 0), (.string y0)] := hw4 ▸ CB3'.out.set 4 (.string y0)
      have hne : kr ≠ k6 := by have := RB.out.lt; have := hk6'.out; omega
      have RB4 := Lib.hid (RB3.out.far' hF4 hne)
      have FF4 := Lib.hid (FF3.out.out hF4 (fun k hk e => by have := (hF1'.out.then hf2'.out).size; have := hk6'.out; omega))
      clear qc0 qf0 qc1 qf1 qc2 qf2 qc3 qf3 qc4 qf4 ql rc0 rf0 rc1 rf1 rc2 rf2 rc3 rf3 rc4 rf4 rl
      have qc0 : w4.cell? ⟨kr, 0, none⟩ = some (.int .i64 0) := RB4.out.cell 0
      have qf0 := RB4.out.free 0
      have qc1 : w4.cell? ⟨kr, 1, none⟩ = some (.int .i64 0) := RB4.out.cell 1
      have qf1 := RB4.out.free 1
      have qc2 : w4.cell? ⟨kr, 2, none⟩ = some (.slice none 0 0) := RB4.out.cell 2
      have qf2 := RB4.out.free 2
      have qc3 : w4.cell? ⟨kr, 3, none⟩ = some (.slice none 0 0) := RB4.out.cell 3
      have qf3 := RB4.out.free 3
      have qc4 : w4.cell? ⟨kr, 4, none⟩ = some (.string ⟨#[]⟩) := RB4.out.cell 4
      have qf4 := RB4.out.free 4
      have ql := RB4.out.lt

      have rc0 : w4.cell? ⟨k6, 0, none⟩ = some (.int .i64 (v : Int)) := CB4.cell 0
      have rf0 := CB4.free 0
      have rc1 : w4.cell? ⟨k6, 1, none⟩ = some (.int .i64 0) := CB4.cell 1
      have rf1 := CB4.free 1
      have rc2 : w4.cell? ⟨k6, 2, none⟩ = some (.slice none 0 0) := CB4.cell 2
      have rf2 := CB4.free 2
      have rc3 : w4.cell? ⟨k6, 3, none⟩ = some (.slice none 0 0) := CB4.cell 3
      have rf3 := CB4.free 3
      have rc4 : w4.cell? ⟨k6, 4, none⟩ = some (.string y0) := CB4.cell 4
      have rf4 := CB4.free 4
      have rl := CB4.lt

      clear hw4 hF4 hy0
      have CB4' := Lib.hid CB4
      clear CB4
      go_wp2_with fail
      obtain ⟨V, hV⟩ : ∃ V, V = ((((((((((w4).setCell ⟨kr, 0, none⟩ (.int .i64 (v : Int)))).setCell ⟨kr, 1, none⟩ (.int .i64 0))).setCell ⟨kr, 2, none⟩ (.slice none 0 0))).setCell ⟨kr, 3, none⟩ (.slice none 0 0))).setCell ⟨kr, 4, none⟩ (.string y0)) := ⟨_, rfl⟩
      rw [← hV]
      have e5 : Bk V kr 27 #[(.int .i64 (v : Int)), (.int .i64 0), (.slice none 0 0), (.slice none 0 0), (.string y0)] ∧ Far (fun k => k = kr) w4 V := hV ▸ set5 RB4.out (.int .i64 (v : Int)) (.int .i64 0) (.slice none 0 0) (.slice none 0 0) (.string y0)
      have x0 : V.cell? ⟨kr, 0, none⟩ = some (.int .i64 (v : Int)) := e5.1.cell 0
      have x1 : V.cell? ⟨kr, 1, none⟩ = some (.int .i64 0) := e5.1.cell 1
      have x2 : V.cell? ⟨kr, 2, none⟩ = some (.slice none 0 0) := e5.1.cell 2
      have x3 : V.cell? ⟨kr, 3, none⟩ = some (.slice none 0 0) := e5.1.cell 3
      have x4 : V.cell? ⟨kr, 4, none⟩ = some (.string y0) := e5.1.cell 4
      refine ⟨rfl, .tuple #[.agg #[(.int .i64 (v : Int)), (.int .i64 0), (.slice none 0 0), (.slice none 0 0), (.string y0)], .int .i64 0], by simp [results, Tryd.results11, go_sem, x0, x1, x2, x3, x4], ?_⟩
      rw [hz'.out]
      exact ⟨(FF4.out).out e5.2 (fun k hk e => by have := hkr'.out; omega), _, rfl, _, _, (by rw [hext.out]; rfl), World.ownsRow_nil _ _ _ _, World.ownsRow_nil _ _ _ _⟩
  have q2 : decide ((v : Int) ≤ 2) = false := by rw [decide_eq_false_iff_not]; omega
  have RF := Lib.hid (fun w => rform_at v (by omega) hv10 w)
  obtain ⟨fs, hfs⟩ : ∃ fs : ByteArray, fs = ⟨(formT v).toArray⟩ := ⟨_, rfl⟩
  obtain ⟨n, hn⟩ : ∃ n, n = (formV v).length := ⟨_, rfl⟩
  have hfz : fs.size = n := by rw [hfs, hn]; simp [ByteArray.size, formT_map]
  have hn5 : n ≤ 5 := by rw [hn]; unfold formV; (repeat' split) <;> simp
  rw [← hfs] at RF
  have hz3 := Lib.hid (show z = match runL (formV v) xs { cm0 with v := v } with | none => .inl 401 | some c => .inr c by rw [hz2'.out]; unfold refV; rw [if_neg hv0, if_neg hv2]; rfl)
  have hfb : fs.size ≤ 5 := by omega
  have hfz' := Lib.hid hfz
  have hfs' := Lib.hid hfs
  have hn' := Lib.hid hn
  clear hfs hn hv0 hv2 hfz
  by_cases hmn : m = fs.size + 1
  rotate_left
  · have q3 : ¬ ((m : Int) = (fs.size : Int) + 1) := by omega
    have q3b : ((m : Int) != (fs.size : Int) + 1) = true := by simp; omega
    have hz' := Lib.hid (show z = .inl 401 by
      rw [hz3.out]
      cases hr : runL (formV v) xs { cm0 with v := v } with
      | none => rfl
      | some c => exact absurd (runL_len hr) (by have := hm'.out; have := hn'.out; have := hfz'.out; omega))
    go_enter Tryd.func11, Tryd.ntmps11
    go_upto_region 1 with fail
    rw [← hkr'.out, ← hw1'.out]
    go_upto_region 8 with (first | (go_at_call 21; refine RW.out.mono ?_; rintro e w2 ⟨wv, rfl, ho, hf2⟩; obtain ⟨g, cap, rfl, hg1, hg2⟩ := World.ownsRow.form ho hm0; have d0 : w2.cell? ⟨g, 0, none⟩ = some (.string ⟨x0.toArray⟩) := ho.cells (g := g) rfl 0 _ rfl; have ho' := Lib.hid ho; have hf2' := Lib.hid hf2; have RB := Lib.hid (RB1.out.far' hf2 id); have hg1' := Lib.hid hg1; have hg2' := Lib.hid hg2; clear ho hf2 hg1; skip) | (go_at_call 22; refine (RV.out _).mono ?_; rintro e w9 ⟨rfl, e9⟩; replace e9 := e9.symm; subst e9))
    obtain ⟨k6, hk6⟩ : ∃ k, k = w2.heap.size := ⟨_, rfl⟩
    obtain ⟨w3, hw3⟩ : ∃ W, W = w2.alloc (.cells #[.int .i64 (v : Int), .int .i64 0, .slice none 0 0, .slice none 0 0, .string ⟨#[]⟩] 27) := ⟨_, rfl⟩
    rw [← hk6, ← hw3]
    have hF3 : Far (fun _ => False) w2 w3 := hw3 ▸ (Far.refl _ w2).alloc _
    have RB3 := Lib.hid (RB.out.far' hF3 id)
    have CB3 : Bk w3 k6 27 (cmdNil v) := hw3 ▸ Bk.new hk6
    have hs3 : w3.heap.size = k6 + 1 := by rw [hw3]; simp [hk6]
    have d3 : w3.cell? ⟨g, 0, none⟩ = some (.string ⟨x0.toArray⟩) := (cell_eq (hF3.block g hg2 id)).trans d0
    have FF3 := Lib.hid ((hF1'.out.then hf2'.out).then hF3)
    have hk6' := Lib.hid hk6
    have hs3' := Lib.hid hs3
    have hF3' := Lib.hid hF3
    have CB3' := Lib.hid CB3
    have qc0 : w3.cell? ⟨kr, 0, none⟩ = some (.int .i64 0) := RB3.out.cell 0
    have qf0 := RB3.out.free 0
    have qc1 : w3.cell? ⟨kr, 1, none⟩ = some (.int .i64 0) := RB3.out.cell 1
    have qf1 := RB3.out.free 1
    have qc2 : w3.cell? ⟨kr, 2, none⟩ = some (.slice none 0 0) := RB3.out.cell 2
    have qf2 := RB3.out.free 2
    have qc3 : w3.cell? ⟨kr, 3, none⟩ = some (.slice none 0 0) := RB3.out.cell 3
    have qf3 := RB3.out.free 3
    have qc4 : w3.cell? ⟨kr, 4, none⟩ = some (.string ⟨#[]⟩) := RB3.out.cell 4
    have qf4 := RB3.out.free 4
    have ql := RB3.out.lt
    have rc0 : w3.cell? ⟨k6, 0, none⟩ = some (.int .i64 (v : Int)) := CB3.cell 0
    have rf0 := CB3.free 0
    have rc1 : w3.cell? ⟨k6, 1, none⟩ = some (.int .i64 0) := CB3.cell 1
    have rf1 := CB3.free 1
    have rc2 : w3.cell? ⟨k6, 2, none⟩ = some (.slice none 0 0) := CB3.cell 2
    have rf2 := CB3.free 2
    have rc3 : w3.cell? ⟨k6, 3, none⟩ = some (.slice none 0 0) := CB3.cell 3
    have rf3 := CB3.free 3
    have rc4 : w3.cell? ⟨k6, 4, none⟩ = some (.string ⟨#[]⟩) := CB3.cell 4
    have rf4 := CB3.free 4
    have rl := CB3.lt
    clear hk6 hw3 hF3 hs3 CB3
    go_wp2_with (go_at_call 23; refine (RF.out _).mono ?_; rintro e w9 ⟨rfl, e9⟩; replace e9 := e9.symm; subst e9)
    obtain ⟨V, hV⟩ : ∃ V, V = ((((((((((w3).setCell ⟨kr, 0, none⟩ (.int .i64 0))).setCell ⟨kr, 1, none⟩ (.int .i64 0))).setCell ⟨kr, 2, none⟩ (.slice none 0 0))).setCell ⟨kr, 3, none⟩ (.slice none 0 0))).setCell ⟨kr, 4, none⟩ (.string ⟨#[]⟩)) := ⟨_, rfl⟩
    rw [← hV]
    have e5 : Bk V kr 27 #[(.int .i64 0), (.int .i64 0), (.slice none 0 0), (.slice none 0 0), (.string ⟨#[]⟩)] ∧ Far (fun k => k = kr) w3 V := hV ▸ set5 RB3.out (.int .i64 0) (.int .i64 0) (.slice none 0 0) (.slice none 0 0) (.string ⟨#[]⟩)
    have x0 : V.cell? ⟨kr, 0, none⟩ = some (.int .i64 0) := e5.1.cell 0
    have x1 : V.cell? ⟨kr, 1, none⟩ = some (.int .i64 0) := e5.1.cell 1
    have x2 : V.cell? ⟨kr, 2, none⟩ = some (.slice none 0 0) := e5.1.cell 2
    have x3 : V.cell? ⟨kr, 3, none⟩ = some (.slice none 0 0) := e5.1.cell 3
    have x4 : V.cell? ⟨kr, 4, none⟩ = some (.string ⟨#[]⟩) := e5.1.cell 4
    refine ⟨rfl, .tuple #[.agg #[(.int .i64 0), (.int .i64 0), (.slice none 0 0), (.slice none 0 0), (.string ⟨#[]⟩)], .int .i64 401], by simp [results, Tryd.results11, go_sem, x0, x1, x2, x3, x4], ?_⟩
    rw [hz'.out]
    exact ⟨(FF3.out).out e5.2 (fun k hk e => by have := hkr'.out; omega), _, rfl, _, _, rfl, World.ownsRow_nil _ _ _ _, World.ownsRow_nil _ _ _ _⟩
  have q3 : ((m : Int) = (fs.size : Int) + 1) := by omega
  have q3b : ((m : Int) != (fs.size : Int) + 1) = false := by simp; omega
  have hxm := Lib.hid (show xs.length = fs.size by have := hm'.out; omega)
  clear hmn
  go_enter Tryd.func11, Tryd.ntmps11
  go_upto_region 1 with fail
  rw [← hkr'.out, ← hw1'.out]
  go_upto_region 8 with (first | (go_at_call 21; refine RW.out.mono ?_; rintro e w2 ⟨wv, rfl, ho, hf2⟩; obtain ⟨g, cap, rfl, hg1, hg2⟩ := World.ownsRow.form ho hm0; have d0 : w2.cell? ⟨g, 0, none⟩ = some (.string ⟨x0.toArray⟩) := ho.cells (g := g) rfl 0 _ rfl; have ho' := Lib.hid ho; have hf2' := Lib.hid hf2; have RB := Lib.hid (RB1.out.far' hf2 id); have hg1' := Lib.hid hg1; have hg2' := Lib.hid hg2; clear ho hf2 hg1; skip) | (go_at_call 22; refine (RV.out _).mono ?_; rintro e w9 ⟨rfl, e9⟩; replace e9 := e9.symm; subst e9))
  obtain ⟨k6, hk6⟩ : ∃ k, k = w2.heap.size := ⟨_, rfl⟩
  obtain ⟨w3, hw3⟩ : ∃ W, W = w2.alloc (.cells #[.int .i64 (v : Int), .int .i64 0, .slice none 0 0, .slice none 0 0, .string ⟨#[]⟩] 27) := ⟨_, rfl⟩
  rw [← hk6, ← hw3]
  have hF3 : Far (fun _ => False) w2 w3 := hw3 ▸ (Far.refl _ w2).alloc _
  have RB3 := Lib.hid (RB.out.far' hF3 id)
  have CB3 : Bk w3 k6 27 (cmdNil v) := hw3 ▸ Bk.new hk6
  have hs3 : w3.heap.size = k6 + 1 := by rw [hw3]; simp [hk6]
  have d3 : w3.cell? ⟨g, 0, none⟩ = some (.string ⟨x0.toArray⟩) := (cell_eq (hF3.block g hg2 id)).trans d0
  have FF3 := Lib.hid ((hF1'.out.then hf2'.out).then hF3)
  have hk6' := Lib.hid hk6
  have hs3' := Lib.hid hs3
  have hF3' := Lib.hid hF3
  have CB3' := Lib.hid CB3
  have qc0 : w3.cell? ⟨kr, 0, none⟩ = some (.int .i64 0) := RB3.out.cell 0
  have qf0 := RB3.out.free 0
  have qc1 : w3.cell? ⟨kr, 1, none⟩ = some (.int .i64 0) := RB3.out.cell 1
  have qf1 := RB3.out.free 1
  have qc2 : w3.cell? ⟨kr, 2, none⟩ = some (.slice none 0 0) := RB3.out.cell 2
  have qf2 := RB3.out.free 2
  have qc3 : w3.cell? ⟨kr, 3, none⟩ = some (.slice none 0 0) := RB3.out.cell 3
  have qf3 := RB3.out.free 3
  have qc4 : w3.cell? ⟨kr, 4, none⟩ = some (.string ⟨#[]⟩) := RB3.out.cell 4
  have qf4 := RB3.out.free 4
  have ql := RB3.out.lt
  have rc0 : w3.cell? ⟨k6, 0, none⟩ = some (.int .i64 (v : Int)) := CB3.cell 0
  have rf0 := CB3.free 0
  have rc1 : w3.cell? ⟨k6, 1, none⟩ = some (.int .i64 0) := CB3.cell 1
  have rf1 := CB3.free 1
  have rc2 : w3.cell? ⟨k6, 2, none⟩ = some (.slice none 0 0) := CB3.cell 2
  have rf2 := CB3.free 2
  have rc3 : w3.cell? ⟨k6, 3, none⟩ = some (.slice none 0 0) := CB3.cell 3
  have rf3 := CB3.free 3
  have rc4 : w3.cell? ⟨k6, 4, none⟩ = some (.string ⟨#[]⟩) := CB3.cell 4
  have rf4 := CB3.free 4
  have rl := CB3.lt
  clear hk6 hw3 hF3 hs3 CB3
  go_wp2_with (go_at_call 23; refine (RF.out _).mono ?_; rintro e w9 ⟨rfl, e9⟩; replace e9 := e9.symm; subst e9)
  clear qc0 qf0 qc1 qf1 qc2 qf2 qc3 qf3 qc4 qf4 ql rc0 rf0 rc1 rf1 rc2 rf2 rc3 rf3 rc4 rf4 rl d3 d0 q3 q3b
  go_loopw [8] (fun iv wr => ∃ (i : Nat) (c : Cm), iv = .int .i64 i ∧ i ≤ fs.size ∧ runL (formV v) xs { cm0 with v := v } = runL ((formV v).drop i) (xs.drop i) c ∧ c.names.length ≤ i ∧ c.nums.length ≤ i ∧ (i = 0 → c.how = 0) ∧ Cd wr (k6 + 1) k6 c ∧ Far (fun k => k6 ≤ k) w3 wr) (fun iv _ => fs.size - (intOf iv).toNat)
  case atStart => exact ⟨0, { cm0 with v := v }, rfl, Nat.zero_le _, rfl, Nat.le_refl _, Nat.le_refl _, fun _ => rfl, cd_nil _ CB3'.out, Far.refl _ _⟩
  case round =>
    obtain ⟨i, c, rfl, hi, hrun, hcn, hcm, hch, hcd, hfw⟩ := hrel
    obtain ⟨nv, mv, hcb, hnv, hmv⟩ := hcd
    obtain ⟨no, nc, rfl⟩ := Src.form (Src.own hnv)
    obtain ⟨mo, mc, rfl⟩ := Src.form (Src.own hmv)
    unfold st at hcb
    have hkk := Lib.hid (show kr < k6 ∧ g < k6 ∧ w.heap.size ≤ k6 from ⟨by have := RB.out.lt; have := hk6'.out; omega, by have := hk6'.out; omega, by have := (hF1'.out.then hf2'.out).size; have := hk6'.out; omega⟩)
    have hne : kr ≠ k6 := by have := hkk.out; omega
    have hne2 : k6 ≠ kr := fun e => hne e.symm
    have RBr := Lib.hid (RB3.out.far' hfw (by have := hkk.out; omega))
    have FFr := Lib.hid (FF3.out.out hfw (fun k hk e => by have := hkk.out; omega))
    have hcb' := Lib.hid hcb
    have hnv' := Lib.hid hnv
    have hmv' := Lib.hid hmv
    have hfw' := Lib.hid hfw
    have hrun' := Lib.hid hrun
    have hch' := Lib.hid hch
    by_cases hlt : i < fs.size
    rotate_left
    · have e1 : decide ((i : Int) < (fs.size : Int)) = false := by rw [decide_eq_false_iff_not]; omega
      have hz' := Lib.hid (show z = .inr c by
        rw [hz3.out, hrun, List.drop_eq_nil_of_le (by have := hn'.out; have := hfz'.out; omega), List.drop_eq_nil_of_le (by have := hxm.out; omega)]; rfl)
      have qc0 : wr.cell? ⟨kr, 0, none⟩ = some (.int .i64 0) := RBr.out.cell 0
      have qf0 := RBr.out.free 0
      have qc1 : wr.cell? ⟨kr, 1, none⟩ = some (.int .i64 0) := RBr.out.cell 1
      have qf1 := RBr.out.free 1
      have qc2 : wr.cell? ⟨kr, 2, none⟩ = some (.slice none 0 0) := RBr.out.cell 2
      have qf2 := RBr.out.free 2
      have qc3 : wr.cell? ⟨kr, 3, none⟩ = some (.slice none 0 0) := RBr.out.cell 3
      have qf3 := RBr.out.free 3
      have qc4 : wr.cell? ⟨kr, 4, none⟩ = some (.string ⟨#[]⟩) := RBr.out.cell 4
      have qf4 := RBr.out.free 4
      have ql := RBr.out.lt

      have rc0 : wr.cell? ⟨k6, 0, none⟩ = some (.int .i64 (c.v : Int)) := hcb.cell 0
      have rf0 := hcb.free 0
      have rc1 : wr.cell? ⟨k6, 1, none⟩ = some (.int .i64 (c.how : Int)) := hcb.cell 1
      have rf1 := hcb.free 1
      have rc2 : wr.cell? ⟨k6, 2, none⟩ = some (.slice no c.names.length nc) := hcb.cell 2
      have rf2 := hcb.free 2
      have rc3 : wr.cell? ⟨k6, 3, none⟩ = some (.slice mo c.nums.length mc) := hcb.cell 3
      have rf3 := hcb.free 3
      have rc4 : wr.cell? ⟨k6, 4, none⟩ = some (.string ⟨c.text.toArray⟩) := hcb.cell 4
      have rf4 := hcb.free 4
      have rl := hcb.lt

      clear hcb hnv hmv hfw hrun hch
      go_wp2_with fail
      obtain ⟨V, hV⟩ : ∃ V, V = ((((((((((wr).setCell ⟨kr, 0, none⟩ (.int .i64 (c.v : Int)))).setCell ⟨kr, 1, none⟩ (.int .i64 (c.how : Int)))).setCell ⟨kr, 2, none⟩ (.slice no c.names.length nc))).setCell ⟨kr, 3, none⟩ (.slice mo c.nums.length mc))).setCell ⟨kr, 4, none⟩ (.string ⟨c.text.toArray⟩)) := ⟨_, rfl⟩
      rw [← hV]
      have e5 : Bk V kr 27 #[(.int .i64 (c.v : Int)), (.int .i64 (c.how : Int)), (.slice no c.names.length nc), (.slice mo c.nums.length mc), (.string ⟨c.text.toArray⟩)] ∧ Far (fun k => k = kr) wr V := hV ▸ set5 RBr.out (.int .i64 (c.v : Int)) (.int .i64 (c.how : Int)) (.slice no c.names.length nc) (.slice mo c.nums.length mc) (.string ⟨c.text.toArray⟩)
      have x0 : V.cell? ⟨kr, 0, none⟩ = some (.int .i64 (c.v : Int)) := e5.1.cell 0
      have x1 : V.cell? ⟨kr, 1, none⟩ = some (.int .i64 (c.how : Int)) := e5.1.cell 1
      have x2 : V.cell? ⟨kr, 2, none⟩ = some (.slice no c.names.length nc) := e5.1.cell 2
      have x3 : V.cell? ⟨kr, 3, none⟩ = some (.slice mo c.nums.length mc) := e5.1.cell 3
      have x4 : V.cell? ⟨kr, 4, none⟩ = some (.string ⟨c.text.toArray⟩) := e5.1.cell 4
      refine ⟨rfl, .tuple #[.agg #[(.int .i64 (c.v : Int)), (.int .i64 (c.how : Int)), (.slice no c.names.length nc), (.slice mo c.nums.length mc), (.string ⟨c.text.toArray⟩)], .int .i64 0], by simp [results, Tryd.results11, go_sem, x0, x1, x2, x3, x4], ?_⟩
      have hnv5 := Lib.hid (row_far hnv'.out e5.2 fun k hk e => by subst e; have := (hnv'.out.lt _ hk).1; have := hkk.out; omega)
      have hmv5 := Lib.hid (row_far hmv'.out e5.2 fun k hk e => by subst e; have := (hmv'.out.lt _ hk).1; have := hkk.out; omega)
      have hk5 := Lib.hid (show w.heap.size ≤ k6 + 1 by have := hkk.out; omega)
      rw [hz'.out]
      exact ⟨(FFr.out).out e5.2 (fun k hk e => by have := hkr'.out; omega), _, rfl, _, _, rfl, rowUp hnv5.out hk5.out, rowUp hmv5.out hk5.out⟩
    have e1 : decide ((i : Int) < (fs.size : Int)) = true := by rw [decide_eq_true_eq]; omega
    have hii : (i : Int) < (fs.size : Int) := by omega
    have him : (i : Int) + 1 < (m : Int) := by have := hm'.out; have := hxm.out; omega
    obtain ⟨t, ht⟩ : ∃ t, (formV v)[i]? = some t := ⟨(formV v)[i]'(by have := hn'.out; have := hfz'.out; omega), List.getElem?_eq_getElem _⟩
    obtain ⟨x, hx⟩ : ∃ x, xs[i]? = some x := ⟨xs[i]'(by have := hxm.out; omega), List.getElem?_eq_getElem _⟩
    have hfi : fs[i] = ltB t := byte_at hfs'.out ht hlt
    have hc2 : w2.cell? ⟨g, i + 1, none⟩ = some (.string ⟨x.toArray⟩) := by
      have h := ho'.out.cells (g := g) rfl (i + 1) (st x) (by rw [List.getElem?_map, List.getElem?_cons_succ, hx]; rfl)
      simpa [Addr.add, st] using h
    have dw : wr.cell? ⟨g, i + 1, none⟩ = some (.string ⟨x.toArray⟩) :=
      (cell_eq (hfw.block g (by have := hkk.out; have := hs3'.out; omega) (by have := hkk.out; omega))).trans ((cell_eq (hF3'.out.block g hg2 id)).trans hc2)
    have hstep := Lib.hid (show runL (formV v) xs { cm0 with v := v } = match stepL t x c with | none => none | some c' => runL ((formV v).drop (i + 1)) (xs.drop (i + 1)) c' by
      rw [hrun, drop_at ht, drop_at hx]; rfl)
    have hti := Lib.hid (show t = .h → i = 0 from fun e => form_h (e ▸ ht))
    have hA6 := Lib.hid (show k6 + 1 ≤ wr.heap.size from Nat.le_trans (by have := hs3'.out; omega) hfw.size)
    have hxl := Lib.hid (show x.length ≤ 2064 by have := split_mem (l := l) (x := x) (by rw [hsp'.out]; exact List.mem_cons_of_mem _ (List.mem_of_getElem? hx)); have := hsz'.out; have := of_decide_eq_false e2; omega)
    have hcl : c.names.length ≤ 5 ∧ c.nums.length ≤ 5 := by omega
    clear hcb hnv hmv hfw hrun hch ht hx
    cases t with
    | n =>
      have b1 : ((fs[i].toNat : Int) == 110) = true := by rw [hfi]; rfl
      clear hfi
      obtain ⟨inf, iz, hinf, iz0, iz1, iz2, iz3⟩ := info3 info_str
      have A1 := Lib.hid (hnv'.out.alloc (.cells #[.string ⟨x.toArray⟩] 9))
      have A2 := Lib.hid (World.news_of_block (w := wr.alloc (.cells #[.string ⟨x.toArray⟩] 9)) (cs := #[.string ⟨x.toArray⟩]) (t := 9) (fr := (0, 0)) (heap_alloc_new wr _))
      have A3 : ∀ u ∈ [Value.string ⟨x.toArray⟩], u.oneCell' = true := by simp [Value.oneCell']
      have A4 : c.names.length + 1 ≤ maxLen := by unfold maxLen; omega
      have A5 : (c.names.length + 1) * 16 ≤ 140737488355328 := by omega
      have A6 : k6 + 1 ≤ (wr.alloc (.cells #[.string ⟨x.toArray⟩] 9)).heap.size := by have := hA6.out; simp; omega
      have rc0 : wr.cell? ⟨k6, 0, none⟩ = some (.int .i64 (c.v : Int)) := hcb'.out.cell 0
      have rf0 := hcb'.out.free 0
      have rc1 : wr.cell? ⟨k6, 1, none⟩ = some (.int .i64 (c.how : Int)) := hcb'.out.cell 1
      have rf1 := hcb'.out.free 1
      have rc2 : wr.cell? ⟨k6, 2, none⟩ = some (.slice no c.names.length nc) := hcb'.out.cell 2
      have rf2 := hcb'.out.free 2
      have rc3 : wr.cell? ⟨k6, 3, none⟩ = some (.slice mo c.nums.length mc) := hcb'.out.cell 3
      have rf3 := hcb'.out.free 3
      have rc4 : wr.cell? ⟨k6, 4, none⟩ = some (.string ⟨c.text.toArray⟩) := hcb'.out.cell 4
      have rf4 := hcb'.out.free 4
      have rl := hcb'.out.lt

      have hq2 := Lib.hid (own_ne hnv'.out hcb'.out str_cmd)
      by_cases hx0 : x = []
      · have q5 : ((⟨x.toArray⟩ : ByteArray).toList == (⟨#[]⟩ : ByteArray).toList) = true := by rw [hx0]; simp
        have q5b : (x == []) = true := by rw [hx0]; rfl
        have hz' := Lib.hid (show z = .inl 401 by rw [hz3.out, hstep.out]; unfold stepL; rw [if_pos hx0])
        clear hx0
        go_upto_region 34 with (at_builtin; go_loud (refine wpList_append_lies _ rfl _ _ 24 rfl (k6 + 1) 9 inf _ 1 16 Tryd.underlying24 hinf iz0 iz1 iz2 iz3 (by decide) (.slice no c.names.length nc) c.names.length _ rfl A1.out ⟨wr.heap.size, 0, none⟩ 1 1 _ rfl rfl A2.out A3 (by decide) A4 A5 A6 _ rfl ?_; intro fg fcap w4 ho4 hg4 hat4 hl4; have hC4 := Bk.grownR (Bk.alloc hcb'.out (.cells #[.string ⟨x.toArray⟩] 9)) hg4 (fun e => hq2.out e.symm); have u0 := hC4.free 2; have u1 : w4.cell? ⟨k6, 2, none⟩ = some (.slice no c.names.length nc) := hC4.cell 2; have ho4' := Lib.hid ho4; have hg4' := Lib.hid hg4; have hC4' := Lib.hid hC4; clear ho4 hg4 hC4))
        obtain ⟨w5, hw5⟩ : ∃ W, W = w4.setCell ⟨k6, 2, none⟩ (.slice (some ⟨fg, 0, none⟩) (c.names.length + 1) fcap) := ⟨_, rfl⟩
        rw [← hw5]
        have hS5 : Far (fun k => k = k6) w4 w5 := hw5 ▸ (Far.refl (fun k => k = k6) w4).set ⟨k6, 2, none⟩ (.slice (some ⟨fg, 0, none⟩) (c.names.length + 1) fcap) (fun _ => rfl)
        have hG4 := (show Far (fun k => (Value.slice no c.names.length nc).ownBlock = some k) wr w4 from ((Far.refl _ wr).alloc _).grown hg4'.out fun k _ e => e)
        have hF5 := Lib.hid ((hfw'.out.trans (hG4.mono (G := fun k => k6 ≤ k) fun k _ e => by have := (hnv'.out.lt k e).1; omega) fun _ _ h => h).trans (hS5.mono (G := fun k => k6 ≤ k) fun k _ e => by omega) fun _ _ h => h)
        have CB5 := Lib.hid (hw5 ▸ hC4'.out.set 2 (.slice (some ⟨fg, 0, none⟩) (c.names.length + 1) fcap) : Bk w5 k6 27 #[(.int .i64 (c.v : Int)), (.int .i64 (c.how : Int)), (.slice (some ⟨fg, 0, none⟩) (c.names.length + 1) fcap), (.slice mo c.nums.length mc), (.string ⟨c.text.toArray⟩)])
        have hnv5 := Lib.hid (row_far ho4'.out hS5 fun k hk e => by subst e; exact own_ne ho4'.out hC4'.out str_cmd hk)
        have hmv5 := Lib.hid (row_far (row_far hmv'.out hG4 fun k hk e => rows_ne hnv'.out hmv'.out str_int e hk) hS5 fun k hk e => by subst e; exact own_ne hmv'.out hcb'.out int_cmd hk)
        have RB5 := Lib.hid (RB3.out.far' hF5.out (by have := hkk.out; omega))
        have FF5 := Lib.hid (FF3.out.out hF5.out (fun k hk e => by have := hkk.out; omega))
        clear hw5 hG4 hS5 u0 u1 rc0 rf0 rc1 rf1 rc2 rf2 rc3 rf3 rc4 rf4 rl
        have qc0 : w5.cell? ⟨kr, 0, none⟩ = some (.int .i64 0) := RB5.out.cell 0
        have qf0 := RB5.out.free 0
        have qc1 : w5.cell? ⟨kr, 1, none⟩ = some (.int .i64 0) := RB5.out.cell 1
        have qf1 := RB5.out.free 1
        have qc2 : w5.cell? ⟨kr, 2, none⟩ = some (.slice none 0 0) := RB5.out.cell 2
        have qf2 := RB5.out.free 2
        have qc3 : w5.cell? ⟨kr, 3, none⟩ = some (.slice none 0 0) := RB5.out.cell 3
        have qf3 := RB5.out.free 3
        have qc4 : w5.cell? ⟨kr, 4, none⟩ = some (.string ⟨#[]⟩) := RB5.out.cell 4
        have qf4 := RB5.out.free 4
        have ql := RB5.out.lt

        go_wp2_with fail
        obtain ⟨V, hV⟩ : ∃ V, V = ((((((((((w5).setCell ⟨kr, 0, none⟩ (.int .i64 0))).setCell ⟨kr, 1, none⟩ (.int .i64 0))).setCell ⟨kr, 2, none⟩ (.slice none 0 0))).setCell ⟨kr, 3, none⟩ (.slice none 0 0))).setCell ⟨kr, 4, none⟩ (.string ⟨#[]⟩)) := ⟨_, rfl⟩
        rw [← hV]
        have e5 : Bk V kr 27 #[(.int .i64 0), (.int .i64 0), (.slice none 0 0), (.slice none 0 0), (.string ⟨#[]⟩)] ∧ Far (fun k => k = kr) w5 V := hV ▸ set5 RB5.out (.int .i64 0) (.int .i64 0) (.slice none 0 0) (.slice none 0 0) (.string ⟨#[]⟩)
        have x0 : V.cell? ⟨kr, 0, none⟩ = some (.int .i64 0) := e5.1.cell 0
        have x1 : V.cell? ⟨kr, 1, none⟩ = some (.int .i64 0) := e5.1.cell 1
        have x2 : V.cell? ⟨kr, 2, none⟩ = some (.slice none 0 0) := e5.1.cell 2
        have x3 : V.cell? ⟨kr, 3, none⟩ = some (.slice none 0 0) := e5.1.cell 3
        have x4 : V.cell? ⟨kr, 4, none⟩ = some (.string ⟨#[]⟩) := e5.1.cell 4
        refine ⟨rfl, .tuple #[.agg #[(.int .i64 0), (.int .i64 0), (.slice none 0 0), (.slice none 0 0), (.string ⟨#[]⟩)], .int .i64 401], by simp [results, Tryd.results11, go_sem, x0, x1, x2, x3, x4], ?_⟩
        rw [hz'.out]
        exact ⟨(FF5.out).out e5.2 (fun k hk e => by have := hkr'.out; omega), _, rfl, _, _, rfl, World.ownsRow_nil _ _ _ _, World.ownsRow_nil _ _ _ _⟩
      · have q5 : ((⟨x.toArray⟩ : ByteArray).toList == (⟨#[]⟩ : ByteArray).toList) = false := by simpa using hx0
        have q5b : (x == []) = false := by simpa using hx0
        have hst2 := Lib.hid (show runL (formV v) xs { cm0 with v := v } = runL ((formV v).drop (i + 1)) (xs.drop (i + 1)) { c with names := c.names ++ [x] } by rw [hstep.out]; unfold stepL; rw [if_neg hx0])
        clear hx0
        go_upto_region 34 with (at_builtin; go_loud (refine wpList_append_lies _ rfl _ _ 24 rfl (k6 + 1) 9 inf _ 1 16 Tryd.underlying24 hinf iz0 iz1 iz2 iz3 (by decide) (.slice no c.names.length nc) c.names.length _ rfl A1.out ⟨wr.heap.size, 0, none⟩ 1 1 _ rfl rfl A2.out A3 (by decide) A4 A5 A6 _ rfl ?_; intro fg fcap w4 ho4 hg4 hat4 hl4; have hC4 := Bk.grownR (Bk.alloc hcb'.out (.cells #[.string ⟨x.toArray⟩] 9)) hg4 (fun e => hq2.out e.symm); have u0 := hC4.free 2; have u1 : w4.cell? ⟨k6, 2, none⟩ = some (.slice no c.names.length nc) := hC4.cell 2; have ho4' := Lib.hid ho4; have hg4' := Lib.hid hg4; have hC4' := Lib.hid hC4; clear ho4 hg4 hC4))
        obtain ⟨w5, hw5⟩ : ∃ W, W = w4.setCell ⟨k6, 2, none⟩ (.slice (some ⟨fg, 0, none⟩) (c.names.length + 1) fcap) := ⟨_, rfl⟩
        rw [← hw5]
        have hS5 : Far (fun k => k = k6) w4 w5 := hw5 ▸ (Far.refl (fun k => k = k6) w4).set ⟨k6, 2, none⟩ (.slice (some ⟨fg, 0, none⟩) (c.names.length + 1) fcap) (fun _ => rfl)
        have hG4 := (show Far (fun k => (Value.slice no c.names.length nc).ownBlock = some k) wr w4 from ((Far.refl _ wr).alloc _).grown hg4'.out fun k _ e => e)
        have hF5 := Lib.hid ((hfw'.out.trans (hG4.mono (G := fun k => k6 ≤ k) fun k _ e => by have := (hnv'.out.lt k e).1; omega) fun _ _ h => h).trans (hS5.mono (G := fun k => k6 ≤ k) fun k _ e => by omega) fun _ _ h => h)
        have CB5 := Lib.hid (hw5 ▸ hC4'.out.set 2 (.slice (some ⟨fg, 0, none⟩) (c.names.length + 1) fcap) : Bk w5 k6 27 #[(.int .i64 (c.v : Int)), (.int .i64 (c.how : Int)), (.slice (some ⟨fg, 0, none⟩) (c.names.length + 1) fcap), (.slice mo c.nums.length mc), (.string ⟨c.text.toArray⟩)])
        have hnv5 := Lib.hid (row_far ho4'.out hS5 fun k hk e => by subst e; exact own_ne ho4'.out hC4'.out str_cmd hk)
        have hmv5 := Lib.hid (row_far (row_far hmv'.out hG4 fun k hk e => rows_ne hnv'.out hmv'.out str_int e hk) hS5 fun k hk e => by subst e; exact own_ne hmv'.out hcb'.out int_cmd hk)
        have RB5 := Lib.hid (RB3.out.far' hF5.out (by have := hkk.out; omega))
        have FF5 := Lib.hid (FF3.out.out hF5.out (fun k hk e => by have := hkk.out; omega))
        clear hw5 hG4 hS5 u0 u1 rc0 rf0 rc1 rf1 rc2 rf2 rc3 rf3 rc4 rf4 rl
        go_wp2_with fail
        go_roundw
        case rel => exact ⟨i + 1, { c with names := c.names ++ [x] }, by go_num, by omega, hst2.out, by simp; omega, by show c.nums.length ≤ i + 1; omega, fun e => absurd e (by omega), ⟨_, _, CB5.out, by rw [List.length_append, List.map_append]; exact hnv5.out, hmv5.out⟩, hF5.out⟩
        case measure => simp [intOf]; omega
    | k =>
      have b1 : ((fs[i].toNat : Int) == 110) = false := by rw [hfi]; rfl
      have b2 : ((fs[i].toNat : Int) == 107) = true := by rw [hfi]; rfl
      clear hfi
      obtain ⟨r, hr⟩ : ∃ r, r = numI x := ⟨_, rfl⟩
      have NMw := rnumber_any x wr (by have := hxl.out; omega)
      have NMd := rnumber_any x wr.drew (by have := hxl.out; omega)
      unfold st at NMw NMd
      rw [← hr] at NMw NMd
      have NM := Lib.hid NMd
      obtain ⟨pi, pz, pi1, pi2, pi3, pi4, pi5⟩ := info3 info_int
      have A7 : 0 < 1 := by decide
      have B4 : c.nums.length + 1 ≤ maxLen := by unfold maxLen; omega
      have B5 : (c.nums.length + 1) * 8 ≤ 140737488355328 := by omega
      have B6 : k6 + 1 ≤ (wr.drew.alloc (.cells #[.int .i64 r] 3)).heap.size := by have := hA6.out; simp; omega
      have B1' := Lib.hid ((row_far hmv'.out (drew_far wr) fun _ _ h => h).alloc (.cells #[.int .i64 r] 3))
      have B2' := Lib.hid (src_new wr.drew 3 [.int .i64 r])
      have B3' := Lib.hid (show ∀ u ∈ [(.int .i64 r : Value)], u.oneCell' = true by simp [Value.oneCell'])
      have rc0 : wr.cell? ⟨k6, 0, none⟩ = some (.int .i64 (c.v : Int)) := hcb'.out.cell 0
      have rf0 := hcb'.out.free 0
      have rc1 : wr.cell? ⟨k6, 1, none⟩ = some (.int .i64 (c.how : Int)) := hcb'.out.cell 1
      have rf1 := hcb'.out.free 1
      have rc2 : wr.cell? ⟨k6, 2, none⟩ = some (.slice no c.names.length nc) := hcb'.out.cell 2
      have rf2 := hcb'.out.free 2
      have rc3 : wr.cell? ⟨k6, 3, none⟩ = some (.slice mo c.nums.length mc) := hcb'.out.cell 3
      have rf3 := hcb'.out.free 3
      have rc4 : wr.cell? ⟨k6, 4, none⟩ = some (.string ⟨c.text.toArray⟩) := hcb'.out.cell 4
      have rf4 := hcb'.out.free 4
      have rl := hcb'.out.lt

      have hkw : k6 < wr.drew.heap.size := (hcb'.out.far' (drew_far _) id).lt
      have hkn : k6 ≠ wr.drew.heap.size := by omega
      have hq3 := Lib.hid (own_ne hmv'.out hcb'.out int_cmd)
      have hcd' := Lib.hid (hcb'.out.far' (drew_far _) id)
      cases hnr : numR x with
      | none =>
        have hr1 : r = -1 := by rw [hr]; unfold numI; rw [hnr]
        have q5 : decide ((0 : Int) ≤ r) = false := by rw [decide_eq_false_iff_not]; omega
        have hz' := Lib.hid (show z = .inl 401 by rw [hz3.out, hstep.out, stepK, hnr])
        clear hr hr1 hnr NMd
        go_upto_region 26 with (go_at_call 24; refine NMw.mono ?_; rintro e w9 ⟨rfl, e9⟩; replace e9 := e9.symm; subst e9)
        go_region_law
          (first | (refine step_app rfl (.tmp 81) (.tmp 84) 25 rfl (k6 + 1) 3 pi pz 1 8 Tryd.underlying25 pi1 pi2 pi3 pi4 pi5 A7 (.slice mo c.nums.length mc) c.nums.length _ rfl B1'.out (.slice (some ⟨wr.drew.heap.size, 0, none⟩) 1 1) 1 _ rfl B2'.out B3'.out B4 B5 B6 ?_; intro v2 w4 ho4 hg4; obtain ⟨vo, vc, rfl⟩ := Src.form (Src.own ho4); have hC4 := Bk.grownR (Bk.alloc hcd'.out (.cells #[.int .i64 r] 3)) hg4 (fun e => hq3.out e.symm); have u0 := hC4.free 3; have u1 : w4.cell? ⟨k6, 3, none⟩ = some (.slice mo c.nums.length mc) := hC4.cell 3; have ho4' := Lib.hid ho4; have hg4' := Lib.hid hg4; have hC4' := Lib.hid hC4; clear ho4 hg4 hC4) | (refine step_call rfl 24 #[.string ⟨x.toArray⟩] ?_ (NM.out.mono (fun e w' ⟨h1, h2⟩ => ⟨_, h1, rfl, h2⟩) : Calls _ _ _ _ fun e w' => ∃ v, e = .returned v ∧ (v = .int .i64 r ∧ w' = wr.drew)) ?_; (go_simp); rintro v3 v4 ⟨rfl, rfl⟩))
        all_goals
          go_upto_region 34 with fail
          obtain ⟨w5, hw5⟩ : ∃ W, W = w4.setCell ⟨k6, 3, none⟩ (.slice vo (c.nums.length + 1) vc) := ⟨_, rfl⟩
          rw [← hw5]
          have hS5 : Far (fun k => k = k6) w4 w5 := hw5 ▸ (Far.refl (fun k => k = k6) w4).set ⟨k6, 3, none⟩ (.slice vo (c.nums.length + 1) vc) (fun _ => rfl)
          have hG4 := (show Far (fun k => (Value.slice mo c.nums.length mc).ownBlock = some k) wr w4 from ((drew_far wr).mono (G := fun k => (Value.slice mo c.nums.length mc).ownBlock = some k) fun _ _ h => h.elim).trans (((Far.refl _ wr.drew).alloc _).grown hg4'.out fun k _ e => e) fun _ _ h => h)
          have hF5 := Lib.hid ((hfw'.out.trans (hG4.mono (G := fun k => k6 ≤ k) fun k _ e => by have := (hmv'.out.lt k e).1; omega) fun _ _ h => h).trans (hS5.mono (G := fun k => k6 ≤ k) fun k _ e => by omega) fun _ _ h => h)
          have CB5 := Lib.hid (hw5 ▸ hC4'.out.set 3 (.slice vo (c.nums.length + 1) vc) : Bk w5 k6 27 #[(.int .i64 (c.v : Int)), (.int .i64 (c.how : Int)), (.slice no c.names.length nc), (.slice vo (c.nums.length + 1) vc), (.string ⟨c.text.toArray⟩)])
          have hnv5 := Lib.hid (row_far (row_far hnv'.out hG4 fun k hk e => rows_ne hmv'.out hnv'.out (fun e => str_int e.symm) e hk) hS5 fun k hk e => by subst e; exact own_ne hnv'.out hcb'.out str_cmd hk)
          have hmv5 := Lib.hid (row_far ho4'.out hS5 fun k hk e => by subst e; exact own_ne ho4'.out hC4'.out int_cmd hk)
          have RB5 := Lib.hid (RB3.out.far' hF5.out (by have := hkk.out; omega))
          have FF5 := Lib.hid (FF3.out.out hF5.out (fun k hk e => by have := hkk.out; omega))
          clear hw5 hG4 hS5 u0 u1 rc0 rf0 rc1 rf1 rc2 rf2 rc3 rf3 rc4 rf4 rl
          have qc0 : w5.cell? ⟨kr, 0, none⟩ = some (.int .i64 0) := RB5.out.cell 0
          have qf0 := RB5.out.free 0
          have qc1 : w5.cell? ⟨kr, 1, none⟩ = some (.int .i64 0) := RB5.out.cell 1
          have qf1 := RB5.out.free 1
          have qc2 : w5.cell? ⟨kr, 2, none⟩ = some (.slice none 0 0) := RB5.out.cell 2
          have qf2 := RB5.out.free 2
          have qc3 : w5.cell? ⟨kr, 3, none⟩ = some (.slice none 0 0) := RB5.out.cell 3
          have qf3 := RB5.out.free 3
          have qc4 : w5.cell? ⟨kr, 4, none⟩ = some (.string ⟨#[]⟩) := RB5.out.cell 4
          have qf4 := RB5.out.free 4
          have ql := RB5.out.lt

          go_wp2_with fail
          obtain ⟨V, hV⟩ : ∃ V, V = ((((((((((w5).setCell ⟨kr, 0, none⟩ (.int .i64 0))).setCell ⟨kr, 1, none⟩ (.int .i64 0))).setCell ⟨kr, 2, none⟩ (.slice none 0 0))).setCell ⟨kr, 3, none⟩ (.slice none 0 0))).setCell ⟨kr, 4, none⟩ (.string ⟨#[]⟩)) := ⟨_, rfl⟩
          rw [← hV]
          have e5 : Bk V kr 27 #[(.int .i64 0), (.int .i64 0), (.slice none 0 0), (.slice none 0 0), (.string ⟨#[]⟩)] ∧ Far (fun k => k = kr) w5 V := hV ▸ set5 RB5.out (.int .i64 0) (.int .i64 0) (.slice none 0 0) (.slice none 0 0) (.string ⟨#[]⟩)
          have x0 : V.cell? ⟨kr, 0, none⟩ = some (.int .i64 0) := e5.1.cell 0
          have x1 : V.cell? ⟨kr, 1, none⟩ = some (.int .i64 0) := e5.1.cell 1
          have x2 : V.cell? ⟨kr, 2, none⟩ = some (.slice none 0 0) := e5.1.cell 2
          have x3 : V.cell? ⟨kr, 3, none⟩ = some (.slice none 0 0) := e5.1.cell 3
          have x4 : V.cell? ⟨kr, 4, none⟩ = some (.string ⟨#[]⟩) := e5.1.cell 4
          refine ⟨rfl, .tuple #[.agg #[(.int .i64 0), (.int .i64 0), (.slice none 0 0), (.slice none 0 0), (.string ⟨#[]⟩)], .int .i64 401], by simp [results, Tryd.results11, go_sem, x0, x1, x2, x3, x4], ?_⟩
          rw [hz'.out]
          exact ⟨(FF5.out).out e5.2 (fun k hk e => by have := hkr'.out; omega), _, rfl, _, _, rfl, World.ownsRow_nil _ _ _ _, World.ownsRow_nil _ _ _ _⟩
      | some u =>
        have hr1 : r = (u : Int) := by rw [hr]; unfold numI; rw [hnr]
        have q5 : decide ((0 : Int) ≤ r) = true := by rw [decide_eq_true_eq]; omega
        have hst2 := Lib.hid (show runL (formV v) xs { cm0 with v := v } = runL ((formV v).drop (i + 1)) (xs.drop (i + 1)) { c with nums := c.nums ++ [u] } by rw [hstep.out, stepK, hnr])
        have hr2 := Lib.hid hr1
        clear hr hr1 hnr NMd
        go_upto_region 26 with (go_at_call 24; refine NMw.mono ?_; rintro e w9 ⟨rfl, e9⟩; replace e9 := e9.symm; subst e9)
        go_region_law
          (first | (refine step_app rfl (.tmp 81) (.tmp 84) 25 rfl (k6 + 1) 3 pi pz 1 8 Tryd.underlying25 pi1 pi2 pi3 pi4 pi5 A7 (.slice mo c.nums.length mc) c.nums.length _ rfl B1'.out (.slice (some ⟨wr.drew.heap.size, 0, none⟩) 1 1) 1 _ rfl B2'.out B3'.out B4 B5 B6 ?_; intro v2 w4 ho4 hg4; obtain ⟨vo, vc, rfl⟩ := Src.form (Src.own ho4); have hC4 := Bk.grownR (Bk.alloc hcd'.out (.cells #[.int .i64 r] 3)) hg4 (fun e => hq3.out e.symm); have u0 := hC4.free 3; have u1 : w4.cell? ⟨k6, 3, none⟩ = some (.slice mo c.nums.length mc) := hC4.cell 3; have ho4' := Lib.hid ho4; have hg4' := Lib.hid hg4; have hC4' := Lib.hid hC4; clear ho4 hg4 hC4) | (refine step_call rfl 24 #[.string ⟨x.toArray⟩] ?_ (NM.out.mono (fun e w' ⟨h1, h2⟩ => ⟨_, h1, rfl, h2⟩) : Calls _ _ _ _ fun e w' => ∃ v, e = .returned v ∧ (v = .int .i64 r ∧ w' = wr.drew)) ?_; (go_simp); rintro v3 v4 ⟨rfl, rfl⟩))
        all_goals
          go_upto_region 34 with fail
          obtain ⟨w5, hw5⟩ : ∃ W, W = w4.setCell ⟨k6, 3, none⟩ (.slice vo (c.nums.length + 1) vc) := ⟨_, rfl⟩
          rw [← hw5]
          have hS5 : Far (fun k => k = k6) w4 w5 := hw5 ▸ (Far.refl (fun k => k = k6) w4).set ⟨k6, 3, none⟩ (.slice vo (c.nums.length + 1) vc) (fun _ => rfl)
          have hG4 := (show Far (fun k => (Value.slice mo c.nums.length mc).ownBlock = some k) wr w4 from ((drew_far wr).mono (G := fun k => (Value.slice mo c.nums.length mc).ownBlock = some k) fun _ _ h => h.elim).trans (((Far.refl _ wr.drew).alloc _).grown hg4'.out fun k _ e => e) fun _ _ h => h)
          have hF5 := Lib.hid ((hfw'.out.trans (hG4.mono (G := fun k => k6 ≤ k) fun k _ e => by have := (hmv'.out.lt k e).1; omega) fun _ _ h => h).trans (hS5.mono (G := fun k => k6 ≤ k) fun k _ e => by omega) fun _ _ h => h)
          have CB5 := Lib.hid (hw5 ▸ hC4'.out.set 3 (.slice vo (c.nums.length + 1) vc) : Bk w5 k6 27 #[(.int .i64 (c.v : Int)), (.int .i64 (c.how : Int)), (.slice no c.names.length nc), (.slice vo (c.nums.length + 1) vc), (.string ⟨c.text.toArray⟩)])
          have hnv5 := Lib.hid (row_far (row_far hnv'.out hG4 fun k hk e => rows_ne hmv'.out hnv'.out (fun e => str_int e.symm) e hk) hS5 fun k hk e => by subst e; exact own_ne hnv'.out hcb'.out str_cmd hk)
          have hmv5 := Lib.hid (row_far ho4'.out hS5 fun k hk e => by subst e; exact own_ne ho4'.out hC4'.out int_cmd hk)
          have RB5 := Lib.hid (RB3.out.far' hF5.out (by have := hkk.out; omega))
          have FF5 := Lib.hid (FF3.out.out hF5.out (fun k hk e => by have := hkk.out; omega))
          clear hw5 hG4 hS5 u0 u1 rc0 rf0 rc1 rf1 rc2 rf2 rc3 rf3 rc4 rf4 rl
          go_wp2_with fail
          go_roundw
          case rel => exact ⟨i + 1, { c with nums := c.nums ++ [u] }, by go_num, by omega, hst2.out, by show c.names.length ≤ i + 1; omega, by simp; omega, fun e => absurd e (by omega), ⟨_, _, CB5.out, hnv5.out, by have h5 := hmv5.out; rw [hr2.out] at h5; simpa [nums] using h5⟩, hF5.out⟩
          case measure => simp [intOf]; omega
    | h =>
      have b1 : ((fs[i].toNat : Int) == 110) = false := by rw [hfi]; rfl
      have b2 : ((fs[i].toNat : Int) == 107) = false := by rw [hfi]; rfl
      have b3 : ((fs[i].toNat : Int) == 104) = true := by rw [hfi]; rfl
      clear hfi
      have hh0 := Lib.hid (show (c.how : Int) = (hwF x 0 : Int) by rw [hch'.out (hti.out rfl)]; simp [hwF])
      obtain ⟨wo, hwo⟩ : ∃ W, W = wr := ⟨_, rfl⟩
      subst hwo
      go_wp2_with fail
      clear dw
      go_loopw [11] (fun jv wq => ∃ j : Nat, jv = .int .i64 ((j : Int) + 1) ∧ j ≤ 3 ∧ Bk wq k6 27 #[(.int .i64 (c.v : Int)), (.int .i64 (hwF x j : Int)), (.slice no c.names.length nc), (.slice mo c.nums.length mc), (.string ⟨c.text.toArray⟩)] ∧ Far (fun k => k = k6) wo wq) (fun jv _ => 5 - (intOf jv).toNat)
      case atStart => exact ⟨0, rfl, by omega, by rw [← hh0.out]; exact hcb'.out, Far.refl _ _⟩
      case round =>
        obtain ⟨j, rfl, hj, hcq, hfq⟩ := hrel
        have hfq' := Lib.hid hfq
        have hcq' := Lib.hid hcq
        have rc0 : wr.cell? ⟨k6, 0, none⟩ = some (.int .i64 (c.v : Int)) := hcq.cell 0
        have rf0 := hcq.free 0
        have rc1 : wr.cell? ⟨k6, 1, none⟩ = some (.int .i64 (hwF x j : Int)) := hcq.cell 1
        have rf1 := hcq.free 1
        have rc2 : wr.cell? ⟨k6, 2, none⟩ = some (.slice no c.names.length nc) := hcq.cell 2
        have rf2 := hcq.free 2
        have rc3 : wr.cell? ⟨k6, 3, none⟩ = some (.slice mo c.nums.length mc) := hcq.cell 3
        have rf3 := hcq.free 3
        have rc4 : wr.cell? ⟨k6, 4, none⟩ = some (.string ⟨c.text.toArray⟩) := hcq.cell 4
        have rf4 := hcq.free 4
        have rl := hcq.lt

        clear hcq
        by_cases hj3 : j < 3
        · have q6 : decide ((j : Int) + 1 ≤ 3) = true := by rw [decide_eq_true_eq]; omega
          have HW := rhow_at j hj3 wr
          clear hfq
          by_cases hx1 : hoT (j + 1) = x
          · have q5 : ((⟨(hoT (j + 1)).toArray⟩ : ByteArray).toList == (⟨x.toArray⟩ : ByteArray).toList) = true := by rw [hx1]; simp
            have q5b : (hoT (j + 1) == x) = true := by simpa using hx1
            have hh := Lib.hid (show (hwF x (j + 1) : Int) = (j : Int) + 1 by rw [hw_hit hj3 hx1]; omega)
            clear hx1
            go_wp2_with (go_at_call 25; refine HW.mono ?_; rintro e w9 ⟨rfl, e9⟩; replace e9 := e9.symm; subst e9)
            go_roundw
            case rel => exact ⟨j + 1, by go_num, by omega, by rw [hh.out]; exact hcq'.out.set 1 (.int .i64 ((j : Int) + 1)), hfq'.out.set ⟨k6, 1, none⟩ (.int .i64 ((j : Int) + 1)) (fun _ => rfl)⟩
            case measure => simp [intOf]; omega
          · have q5 : ((⟨(hoT (j + 1)).toArray⟩ : ByteArray).toList == (⟨x.toArray⟩ : ByteArray).toList) = false := by simpa using hx1
            have q5b : (hoT (j + 1) == x) = false := by simpa using hx1
            have hh := Lib.hid (show hwF x (j + 1) = hwF x j from hw_miss hj3 hx1)
            clear hx1
            go_wp2_with (go_at_call 25; refine HW.mono ?_; rintro e w9 ⟨rfl, e9⟩; replace e9 := e9.symm; subst e9)
            go_roundw
            case rel => exact ⟨j + 1, by go_num, by omega, by rw [hh.out]; exact hcq'.out, hfq'.out⟩
            case measure => simp [intOf]; omega
        · have q6 : decide ((j : Int) + 1 ≤ 3) = false := by rw [decide_eq_false_iff_not]; omega
          obtain rfl : j = 3 := by omega
          have hst3 := Lib.hid (show z = match (if hwF x 3 = 0 then none else runL ((formV v).drop (i + 1)) (xs.drop (i + 1)) { c with how := hwF x 3 }) with | none => .inl 401 | some c => .inr c by
            rw [hz3.out, hstep.out, stepH]
            by_cases e : hwF x 3 = 0
            · rw [if_pos e, if_pos e]
            · rw [if_neg e, if_neg e])
          have hst4 := Lib.hid (show hwF x 3 ≠ 0 → runL (formV v) xs { cm0 with v := v } = runL ((formV v).drop (i + 1)) (xs.drop (i + 1)) { c with how := hwF x 3 } from fun e => by rw [hstep.out, stepH, if_neg e])
          have hF5 := Lib.hid (hfw'.out.trans (hfq.mono (G := fun k => k6 ≤ k) fun k _ e => by omega) fun _ _ h => h)
          have hnv5 := Lib.hid (row_far hnv'.out hfq fun k hk e => by subst e; exact own_ne hnv'.out hcb'.out str_cmd hk)
          have hmv5 := Lib.hid (row_far hmv'.out hfq fun k hk e => by subst e; exact own_ne hmv'.out hcb'.out int_cmd hk)
          have RB5 := Lib.hid (RB3.out.far' hF5.out (by have := hkk.out; omega))
          have FF5 := Lib.hid (FF3.out.out hF5.out (fun k hk e => by have := hkk.out; omega))
          clear hfq
          generalize hwF x 3 = hq at *
          by_cases hq0 : hq = 0
          · have q7 : decide ((0 : Int) < (hq : Int)) = false := by rw [decide_eq_false_iff_not]; omega
            have q7c : decide (0 < hq) = false := by rw [decide_eq_false_iff_not]; omega
            have q7b : decide ((hq : Int) > 0) = false := by rw [decide_eq_false_iff_not]; omega
            have hz' := Lib.hid (show z = .inl 401 by rw [hst3.out, if_pos hq0])
            clear hq0
            have qc0 : wr.cell? ⟨kr, 0, none⟩ = some (.int .i64 0) := RB5.out.cell 0
            have qf0 := RB5.out.free 0
            have qc1 : wr.cell? ⟨kr, 1, none⟩ = some (.int .i64 0) := RB5.out.cell 1
            have qf1 := RB5.out.free 1
            have qc2 : wr.cell? ⟨kr, 2, none⟩ = some (.slice none 0 0) := RB5.out.cell 2
            have qf2 := RB5.out.free 2
            have qc3 : wr.cell? ⟨kr, 3, none⟩ = some (.slice none 0 0) := RB5.out.cell 3
            have qf3 := RB5.out.free 3
            have qc4 : wr.cell? ⟨kr, 4, none⟩ = some (.string ⟨#[]⟩) := RB5.out.cell 4
            have qf4 := RB5.out.free 4
            have ql := RB5.out.lt

            go_wp2_with fail
            obtain ⟨V, hV⟩ : ∃ V, V = ((((((((((wr).setCell ⟨kr, 0, none⟩ (.int .i64 0))).setCell ⟨kr, 1, none⟩ (.int .i64 0))).setCell ⟨kr, 2, none⟩ (.slice none 0 0))).setCell ⟨kr, 3, none⟩ (.slice none 0 0))).setCell ⟨kr, 4, none⟩ (.string ⟨#[]⟩)) := ⟨_, rfl⟩
            rw [← hV]
            have e5 : Bk V kr 27 #[(.int .i64 0), (.int .i64 0), (.slice none 0 0), (.slice none 0 0), (.string ⟨#[]⟩)] ∧ Far (fun k => k = kr) wr V := hV ▸ set5 RB5.out (.int .i64 0) (.int .i64 0) (.slice none 0 0) (.slice none 0 0) (.string ⟨#[]⟩)
            have x0 : V.cell? ⟨kr, 0, none⟩ = some (.int .i64 0) := e5.1.cell 0
            have x1 : V.cell? ⟨kr, 1, none⟩ = some (.int .i64 0) := e5.1.cell 1
            have x2 : V.cell? ⟨kr, 2, none⟩ = some (.slice none 0 0) := e5.1.cell 2
            have x3 : V.cell? ⟨kr, 3, none⟩ = some (.slice none 0 0) := e5.1.cell 3
            have x4 : V.cell? ⟨kr, 4, none⟩ = some (.string ⟨#[]⟩) := e5.1.cell 4
            refine ⟨rfl, .tuple #[.agg #[(.int .i64 0), (.int .i64 0), (.slice none 0 0), (.slice none 0 0), (.string ⟨#[]⟩)], .int .i64 401], by simp [results, Tryd.results11, go_sem, x0, x1, x2, x3, x4], ?_⟩
            rw [hz'.out]
            exact ⟨(FF5.out).out e5.2 (fun k hk e => by have := hkr'.out; omega), _, rfl, _, _, rfl, World.ownsRow_nil _ _ _ _, World.ownsRow_nil _ _ _ _⟩
          · have q7 : decide ((0 : Int) < (hq : Int)) = true := by rw [decide_eq_true_eq]; omega
            have q7c : decide (0 < hq) = true := by rw [decide_eq_true_eq]; omega
            have q7b : decide ((hq : Int) > 0) = true := by rw [decide_eq_true_eq]; omega
            have hst2 := Lib.hid (hst4.out hq0)
            clear hq0
            go_wp2_with fail
            exact ⟨⟨i + 1, { c with how := hq }, by go_num, by omega, hst2.out, by show c.names.length ≤ i + 1; omega, by show c.nums.length ≤ i + 1; omega, fun e => absurd e (by omega), ⟨_, _, hcq'.out, hnv5.out, hmv5.out⟩, hF5.out⟩, by simp [intOf]; omega⟩
end
end Go.Proofs.YtjmgheogpglpnaaDoor
