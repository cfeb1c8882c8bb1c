/-
  May a pack be: the program's word.
-/
import Derived.Test.YteoglnbmmgoibaaGreatDoorGoes22
namespace Go.Proofs.YteoglnbmmgoibaaGreatDoor
open Go.RowKit
set_option linter.unusedVariables false
set_option linter.unusedSimpArgs false
theorem isPlace_is (ao : Option Addr) (n c : Nat) (i : Int) (b : Bool) (w : World) (hn : n ≤ maxLen) (hb : decide (0 ≤ i ∧ i < n) = b) : Calls Tryz.prog 25 #[.slice ao n c, .int .i64 i] w fun e w' => e = .returned (.bool b) ∧ w = w' := hb ▸ isPlace_any ao n c i w hn
theorem far_set_new {a w : World} {p : Addr} {v : Value} (h : Far (fun _ => False) a w) (hp : a.heap.size ≤ p.block) : Far (fun _ => False) a (w.setCell p v) := by
  have h2 := (Far.refl (fun k => k = p.block) w).set p v (fun _ => rfl)
  exact h.trans h2 fun i hi e => by subst e; omega
theorem bk_drew {w : World} {g : Nat} {t : TypeId} {cs : Array Value} (h : Bk w g t cs) : Bk w.drew g t cs := h
section
set_option maxHeartbeats 8000000
set_option maxRecDepth 100000
theorem maybe_any (v : Value) (F : List Fc) (p0 p1 p2 p3 p4 : Int) (w : World) (hP : Facts w v F) (hs : F.length ≤ 5864062014805) :
    Calls Tryz.prog 15 #[v, .agg #[.int .i64 p0, .int .i64 p1, .int .i64 p2, .int .i64 p3, .int .i64 p4]] w fun e w' => e = .returned (.bool (goesB F p0 p1 p2 p3 p4)) ∧ Far (fun _ => False) w w' := by
  obtain ⟨ao, ac, rfl⟩ := Src.form hP
  obtain ⟨h1, hh1⟩ : ∃ h, h = w.heap.size := ⟨_, rfl⟩
  obtain ⟨W, hW⟩ : ∃ W, W = w.alloc (.cells #[.int .i64 p0, .int .i64 p1, .int .i64 p2, .int .i64 p3, .int .i64 p4] 42) := ⟨_, rfl⟩
  have hB : Bk W h1 42 #[.int .i64 p0, .int .i64 p1, .int .i64 p2, .int .i64 p3, .int .i64 p4] := hW ▸ Bk.new hh1
  have hF : Far (fun _ => False) w W := hW ▸ (Far.refl _ w).alloc _
  have b0 : W.cell? ⟨h1, 0, none⟩ = some (.int .i64 p0) := hB.cell 0
  have b1 : W.cell? ⟨h1, 1, none⟩ = some (.int .i64 p1) := hB.cell 1
  have b2 : W.cell? ⟨h1, 2, none⟩ = some (.int .i64 p2) := hB.cell 2
  have b3 : W.cell? ⟨h1, 3, none⟩ = some (.int .i64 p3) := hB.cell 3
  have b4 : W.cell? ⟨h1, 4, none⟩ = some (.int .i64 p4) := hB.cell 4
  have hQ := Lib.hid (hP.move hF)
  have HL := Lib.hid (show F.length ≤ maxLen by unfold maxLen; omega)
  have hB' := Lib.hid hB
  have hh1' := Lib.hid hh1
  have hW' := Lib.hid hW
  have hF' := Lib.hid hF
  clear hP hh1 hW hB hF
  go_enter Tryz.func15, Tryz.ntmps15
  go_upto_region 1 with fail
  rw [← hh1'.out, ← hW'.out]
  by_cases z0 : 0 ≤ p0 ∧ p0 < (F.length : Int)
  · have I0 := Lib.hid (fun w' => isPlace_is ao F.length ac p0 true w' HL.out (decide_eq_true z0))
    by_cases q1 : p1 < 0
    · have dq1 : decide (p1 < 0) = true := decide_eq_true q1
      have hr := Lib.hid (goes_a (p3 := p3) (p4 := p4) (show p0 < 0 ∨ (F.length : Int) ≤ p0 ∨ p1 < 0 ∨ p2 < 0 by omega))
      go_wp2_with (first | (with_reducible refine (I0.out _).mono ?_; rintro e w' ⟨rfl, rfl⟩) | (with_reducible refine (I3.out _).mono ?_; rintro e w' ⟨rfl, rfl⟩) | (with_reducible refine (I4.out _).mono ?_; rintro e w' ⟨rfl, rfl⟩))
      go_ret
      exact ⟨by rw [hr.out]; rfl, hF'.out⟩
    · have dq1 : decide (p1 < 0) = false := decide_eq_false q1
      by_cases q2 : p2 < 0
      · have dq2 : decide (p2 < 0) = true := decide_eq_true q2
        have hr := Lib.hid (goes_a (p3 := p3) (p4 := p4) (show p0 < 0 ∨ (F.length : Int) ≤ p0 ∨ p1 < 0 ∨ p2 < 0 by omega))
        go_wp2_with (first | (with_reducible refine (I0.out _).mono ?_; rintro e w' ⟨rfl, rfl⟩) | (with_reducible refine (I3.out _).mono ?_; rintro e w' ⟨rfl, rfl⟩) | (with_reducible refine (I4.out _).mono ?_; rintro e w' ⟨rfl, rfl⟩))
        go_ret
        exact ⟨by rw [hr.out]; rfl, hF'.out⟩
      · have dq2 : decide (p2 < 0) = false := decide_eq_false q2
        have hg1 : ¬ (p0 < 0 ∨ (F.length : Int) ≤ p0 ∨ p1 < 0 ∨ p2 < 0) := by omega
        by_cases l3 : p3 = -1
        · subst l3
          by_cases l4 : p4 = -1
          · subst l4
            have hr := Lib.hid (goes_b (F := F) (p0 := p0) (p1 := p1) (p2 := p2) hg1 ⟨rfl, rfl⟩)
            go_wp2_with (first | (with_reducible refine (I0.out _).mono ?_; rintro e w' ⟨rfl, rfl⟩) | (with_reducible refine (I3.out _).mono ?_; rintro e w' ⟨rfl, rfl⟩) | (with_reducible refine (I4.out _).mono ?_; rintro e w' ⟨rfl, rfl⟩))
            go_ret
            exact ⟨by rw [hr.out]; rfl, hF'.out⟩
          · have d4 : (p4 == -1) = false := by simpa using l4
            have z3 : ¬ (0 ≤ (-1 : Int) ∧ (-1 : Int) < (F.length : Int)) := by omega
            have I3 := Lib.hid (fun w' => isPlace_is ao F.length ac (-1) false w' HL.out (decide_eq_false z3))
            have hr := Lib.hid (goes_c (F := F) (p0 := p0) (p1 := p1) (p2 := p2) (p3 := -1) (p4 := p4) hg1 (fun h => l4 h.2) (.inl (by decide)))
            go_wp2_with (first | (with_reducible refine (I0.out _).mono ?_; rintro e w' ⟨rfl, rfl⟩) | (with_reducible refine (I3.out _).mono ?_; rintro e w' ⟨rfl, rfl⟩) | (with_reducible refine (I4.out _).mono ?_; rintro e w' ⟨rfl, rfl⟩))
            go_ret
            exact ⟨by rw [hr.out]; rfl, hF'.out⟩
        · have d3 : (p3 == -1) = false := by simpa using l3
          have hg2 : ¬ (p3 = -1 ∧ p4 = -1) := fun h => l3 h.1
          by_cases z3 : 0 ≤ p3 ∧ p3 < (F.length : Int)
          · have I3 := Lib.hid (fun w' => isPlace_is ao F.length ac p3 true w' HL.out (decide_eq_true z3))
            by_cases z4 : 0 ≤ p4 ∧ p4 < (F.length : Int)
            · have I4 := Lib.hid (fun w' => isPlace_is ao F.length ac p4 true w' HL.out (decide_eq_true z4))
              have hr := Lib.hid (goes_d hg1 hg2 (show ¬ (p3 < 0 ∨ (F.length : Int) ≤ p3 ∨ p4 < 0 ∨ (F.length : Int) ≤ p4) by omega))
              obtain ⟨k0, rfl⟩ : ∃ k : Nat, p0 = k := ⟨p0.toNat, by omega⟩
              obtain ⟨k3, rfl⟩ : ∃ k : Nat, p3 = k := ⟨p3.toNat, by omega⟩
              obtain ⟨k4, rfl⟩ : ∃ k : Nat, p4 = k := ⟨p4.toNat, by omega⟩
              have i0 : (k0 : Int) < (F.length : Int) := by omega
              have i3 : (k3 : Int) < (F.length : Int) := by omega
              have i4 : (k4 : Int) < (F.length : Int) := by omega
              obtain ⟨s, hs0⟩ : ∃ s, F[k0]? = some s := ⟨F[k0]'(by omega), List.getElem?_eq_getElem (by omega)⟩
              obtain ⟨l, hs3⟩ : ∃ s, F[k3]? = some s := ⟨F[k3]'(by omega), List.getElem?_eq_getElem (by omega)⟩
              obtain ⟨r, hs4⟩ : ∃ s, F[k4]? = some s := ⟨F[k4]'(by omega), List.getElem?_eq_getElem (by omega)⟩
              have f0 : fAt F k0 = s := by simp [fAt, List.getD, hs0]
              have f3 : fAt F k3 = l := by simp [fAt, List.getD, hs3]
              have f4 : fAt F k4 = r := by simp [fAt, List.getD, hs4]
              rw [f0, f3, f4] at hr
              obtain ⟨g, off, c, eg, hgl, s0, s1, s2⟩ := hQ.out.fact hs0
              obtain ⟨g', off', c', eg', _, l0, l1, l2⟩ := hQ.out.fact hs3
              obtain ⟨g'', off'', c'', eg'', _, r0', r1, r2⟩ := hQ.out.fact hs4
              rw [eg] at eg' eg''
              simp only [Value.slice.injEq, Option.some.injEq, Addr.mk.injEq] at eg eg' eg''
              obtain ⟨rfl, _, rfl⟩ := eg
              obtain ⟨⟨rfl, rfl, _⟩, _, rfl⟩ := eg'
              obtain ⟨⟨rfl, rfl, _⟩, _, rfl⟩ := eg''
              obtain ⟨sn, sf, st⟩ := s
              obtain ⟨ln, lf, lt⟩ := l
              obtain ⟨rn, rf, rt⟩ := r
              dsimp only at s0 s1 s2 l0 l1 l2 r0' r1 r2
              have hl1 := hB'.out.lt
              clear f0 f3 f4 hs0 hs3 hs4 hg1 hg2 z0 z3 z4
              go_upto_region 7 with (first | (with_reducible refine (I0.out _).mono ?_; rintro e w' ⟨rfl, rfl⟩) | (with_reducible refine (I3.out _).mono ?_; rintro e w' ⟨rfl, rfl⟩) | (with_reducible refine (I4.out _).mono ?_; rintro e w' ⟨rfl, rfl⟩))
              clear I0 I3 I4
              go_cut [5, 6, 7] (fun u5 u6 u7 wc => ∃ k5 k6 k7 : Nat, u5 = .pointer (some ⟨k5, 0, none⟩) ∧ u6 = .pointer (some ⟨k6, 0, none⟩) ∧ u7 = .pointer (some ⟨k7, 0, none⟩) ∧ Bk wc k5 33 #[.int .i64 sn, .int .i64 sf, .int .i64 st] ∧ Bk wc k6 33 #[.int .i64 ln, .int .i64 lf, .int .i64 lt] ∧ Bk wc k7 33 #[.int .i64 rn, .int .i64 rf, .int .i64 rt] ∧ Far (fun _ => False) W wc)
              case first =>
                have HKK := Lib.hid (show ∀ w', Far (fun _ => False) W w' → w'.cell? ⟨h1, 0, none⟩ = some (.int .i64 k0) ∧ w'.cell? ⟨h1, 3, none⟩ = some (.int .i64 k3) ∧ w'.cell? ⟨h1, 4, none⟩ = some (.int .i64 k4) ∧ w'.cell? ⟨g, off + k0 * 3, none⟩ = some (.int .i64 sn) ∧ w'.cell? ⟨g, off + k0 * 3 + 1, none⟩ = some (.int .i64 sf) ∧ w'.cell? ⟨g, off + k0 * 3 + 2, none⟩ = some (.int .i64 st) ∧ w'.cell? ⟨g, off + k3 * 3, none⟩ = some (.int .i64 ln) ∧ w'.cell? ⟨g, off + k3 * 3 + 1, none⟩ = some (.int .i64 lf) ∧ w'.cell? ⟨g, off + k3 * 3 + 2, none⟩ = some (.int .i64 lt) ∧ w'.cell? ⟨g, off + k4 * 3, none⟩ = some (.int .i64 rn) ∧ w'.cell? ⟨g, off + k4 * 3 + 1, none⟩ = some (.int .i64 rf) ∧ w'.cell? ⟨g, off + k4 * 3 + 2, none⟩ = some (.int .i64 rt) from fun w' h => ⟨(h.cell hl1).trans b0, (h.cell hl1).trans b3, (h.cell hl1).trans b4, (h.cell hgl).trans s0, (h.cell hgl).trans s1, (h.cell hgl).trans s2, (h.cell hgl).trans l0, (h.cell hgl).trans l1, (h.cell hgl).trans l2, (h.cell hgl).trans r0', (h.cell hgl).trans r1, (h.cell hgl).trans r2⟩)
                go_region_held3 (fun w' => w'.cell? ⟨h1, 0, none⟩ = some (.int .i64 k0) ∧ w'.cell? ⟨h1, 3, none⟩ = some (.int .i64 k3) ∧ w'.cell? ⟨h1, 4, none⟩ = some (.int .i64 k4) ∧ w'.cell? ⟨g, off + k0 * 3, none⟩ = some (.int .i64 sn) ∧ w'.cell? ⟨g, off + k0 * 3 + 1, none⟩ = some (.int .i64 sf) ∧ w'.cell? ⟨g, off + k0 * 3 + 2, none⟩ = some (.int .i64 st) ∧ w'.cell? ⟨g, off + k3 * 3, none⟩ = some (.int .i64 ln) ∧ w'.cell? ⟨g, off + k3 * 3 + 1, none⟩ = some (.int .i64 lf) ∧ w'.cell? ⟨g, off + k3 * 3 + 2, none⟩ = some (.int .i64 lt) ∧ w'.cell? ⟨g, off + k4 * 3, none⟩ = some (.int .i64 rn) ∧ w'.cell? ⟨g, off + k4 * 3 + 1, none⟩ = some (.int .i64 rf) ∧ w'.cell? ⟨g, off + k4 * 3 + 2, none⟩ = some (.int .i64 rt)) ((refine HKK.out _ ?_; (repeat' (first | exact Far.refl _ _ | exact Nat.le_refl _ | exact Nat.le_add_right _ _ | refine Far.drew ?_ | refine Far.alloc ?_ _ | refine far_set_new ?_ ?_ | omega)))) (fail)
                all_goals
                  go_wp2_with fail
                  go_meet
                  refine ⟨_, _, _, rfl, rfl, rfl, ?_, ?_, ?_, ?_⟩
                  · (first | exact bk_drew (((Bk.new rfl).alloc _).alloc _) | exact bk_drew ((Bk.new (by simp)).alloc _) | exact bk_drew (Bk.new (by simp)) | exact (((Bk.new rfl).alloc _).alloc _) | exact ((Bk.new (by simp)).alloc _) | exact (Bk.new (by simp)))
                  · (first | exact bk_drew (((Bk.new rfl).alloc _).alloc _) | exact bk_drew ((Bk.new (by simp)).alloc _) | exact bk_drew (Bk.new (by simp)) | exact (((Bk.new rfl).alloc _).alloc _) | exact ((Bk.new (by simp)).alloc _) | exact (Bk.new (by simp)))
                  · (first | exact bk_drew (((Bk.new rfl).alloc _).alloc _) | exact bk_drew ((Bk.new (by simp)).alloc _) | exact bk_drew (Bk.new (by simp)) | exact (((Bk.new rfl).alloc _).alloc _) | exact ((Bk.new (by simp)).alloc _) | exact (Bk.new (by simp)))
                  · (repeat' (first | exact Far.refl _ _ | exact Nat.le_refl _ | exact Nat.le_add_right _ _ | refine Far.drew ?_ | refine Far.alloc ?_ _ | refine far_set_new ?_ ?_ | omega))
              case rest =>
                obtain ⟨k5, k6, k7, rfl, rfl, rfl, hS1, hS2, hS3, hf3⟩ := hcut
                have b2 : wc.cell? ⟨h1, 2, none⟩ = some (.int .i64 p2) := (hB'.out.far' hf3 id).cell 2
                have hf3' := Lib.hid hf3
                have hS1 := Lib.hid hS1
                have hS2 := Lib.hid hS2
                have hS3 := Lib.hid hS3
                clear hf3
                have s1 : wc.cell? ⟨k5, 1, none⟩ = some (.int .i64 sf) := hS1.out.cell 1
                have s2 : wc.cell? ⟨k5, 2, none⟩ = some (.int .i64 st) := hS1.out.cell 2
                have l1 : wc.cell? ⟨k6, 1, none⟩ = some (.int .i64 lf) := hS2.out.cell 1
                have l2 : wc.cell? ⟨k6, 2, none⟩ = some (.int .i64 lt) := hS2.out.cell 2
                have r1 : wc.cell? ⟨k7, 1, none⟩ = some (.int .i64 rf) := hS3.out.cell 1
                have r2 : wc.cell? ⟨k7, 2, none⟩ = some (.int .i64 rt) := hS3.out.cell 2
                have hfin := Lib.hid (show finB (sn, sf, st) (ln, lf, lt) (rn, rf, rt) p2 = decide (lf = sf ∧ lt = p2 ∧ rf = p2 ∧ rt = st) from rfl)
                by_cases m1 : lf = sf
                · have n1 : (lf == sf) = true := by simpa using m1
                  by_cases m2 : lt = p2
                  · have n2 : (lt == p2) = true := by simpa using m2
                    by_cases m3 : rf = p2
                    · have n3 : (rf == p2) = true := by simpa using m3
                      have hv := Lib.hid (show finB (sn, sf, st) (ln, lf, lt) (rn, rf, rt) p2 = decide (rt = st) by rw [hfin.out]; simp [m1, m2, m3])
                      clear m1 m2 m3
                      go_wp2_with fail
                      go_ret
                      exact ⟨by rw [hr.out, hv.out]; rfl, hF'.out.then hf3'.out⟩
                    · have n3 : (rf == p2) = false := by simpa using m3
                      have hv := Lib.hid (show finB (sn, sf, st) (ln, lf, lt) (rn, rf, rt) p2 = false by rw [hfin.out]; simp [m3])
                      clear m1 m2 m3
                      go_wp2_with fail
                      go_ret
                      exact ⟨by rw [hr.out, hv.out]; rfl, hF'.out.then hf3'.out⟩
                  · have n2 : (lt == p2) = false := by simpa using m2
                    have hv := Lib.hid (show finB (sn, sf, st) (ln, lf, lt) (rn, rf, rt) p2 = false by rw [hfin.out]; simp [m2])
                    clear m1 m2
                    go_wp2_with fail
                    go_ret
                    exact ⟨by rw [hr.out, hv.out]; rfl, hF'.out.then hf3'.out⟩
                · have n1 : (lf == sf) = false := by simpa using m1
                  have hv := Lib.hid (show finB (sn, sf, st) (ln, lf, lt) (rn, rf, rt) p2 = false by rw [hfin.out]; simp [m1])
                  clear m1
                  go_wp2_with fail
                  go_ret
                  exact ⟨by rw [hr.out, hv.out]; rfl, hF'.out.then hf3'.out⟩
            · have I4 := Lib.hid (fun w' => isPlace_is ao F.length ac p4 false w' HL.out (decide_eq_false z4))
              have hr := Lib.hid (goes_c hg1 hg2 (show p3 < 0 ∨ (F.length : Int) ≤ p3 ∨ p4 < 0 ∨ (F.length : Int) ≤ p4 by omega))
              go_wp2_with (first | (with_reducible refine (I0.out _).mono ?_; rintro e w' ⟨rfl, rfl⟩) | (with_reducible refine (I3.out _).mono ?_; rintro e w' ⟨rfl, rfl⟩) | (with_reducible refine (I4.out _).mono ?_; rintro e w' ⟨rfl, rfl⟩))
              go_ret
              exact ⟨by rw [hr.out]; rfl, hF'.out⟩
          · have I3 := Lib.hid (fun w' => isPlace_is ao F.length ac p3 false w' HL.out (decide_eq_false z3))
            have hr := Lib.hid (goes_c hg1 hg2 (show p3 < 0 ∨ (F.length : Int) ≤ p3 ∨ p4 < 0 ∨ (F.length : Int) ≤ p4 by omega))
            go_wp2_with (first | (with_reducible refine (I0.out _).mono ?_; rintro e w' ⟨rfl, rfl⟩) | (with_reducible refine (I3.out _).mono ?_; rintro e w' ⟨rfl, rfl⟩) | (with_reducible refine (I4.out _).mono ?_; rintro e w' ⟨rfl, rfl⟩))
            go_ret
            exact ⟨by rw [hr.out]; rfl, hF'.out⟩
  · have I0 := Lib.hid (fun w' => isPlace_is ao F.length ac p0 false w' HL.out (decide_eq_false z0))
    have hr := Lib.hid (goes_a (p3 := p3) (p4 := p4) (show p0 < 0 ∨ (F.length : Int) ≤ p0 ∨ p1 < 0 ∨ p2 < 0 by omega))
    go_wp2_with (first | (with_reducible refine (I0.out _).mono ?_; rintro e w' ⟨rfl, rfl⟩) | (with_reducible refine (I3.out _).mono ?_; rintro e w' ⟨rfl, rfl⟩) | (with_reducible refine (I4.out _).mono ?_; rintro e w' ⟨rfl, rfl⟩))
    go_ret
    exact ⟨by rw [hr.out]; rfl, hF'.out⟩
end
end Go.Proofs.YteoglnbmmgoibaaGreatDoor
