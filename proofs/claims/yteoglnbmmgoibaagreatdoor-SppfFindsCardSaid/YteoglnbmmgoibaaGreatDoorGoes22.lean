/-
  May a pack be: the document's word.
-/
import Derived.Test.YteoglnbmmgoibaaGreatDoorForestFns
namespace Go.Proofs.YteoglnbmmgoibaaGreatDoor
open Go.RowKit
set_option linter.unusedVariables false
set_option linter.unusedSimpArgs false
def fAt (F : List Fc) (i : Int) : Fc := F.getD i.toNat (0, 0, 0)
def finB (s l r : Fc) (m : Int) : Bool := decide (l.2.1 = s.2.1 ∧ l.2.2 = m ∧ r.2.1 = m ∧ r.2.2 = s.2.2)
/-- May the pack be, of these spots? -/
def goesB (F : List Fc) (p0 p1 p2 p3 p4 : Int) : Bool :=
  if p0 < 0 ∨ (F.length : Int) ≤ p0 ∨ p1 < 0 ∨ p2 < 0 then false
  else if p3 = -1 ∧ p4 = -1 then decide (p2 = 0)
  else if p3 < 0 ∨ (F.length : Int) ≤ p3 ∨ p4 < 0 ∨ (F.length : Int) ≤ p4 then false
  else finB (fAt F p0) (fAt F p3) (fAt F p4) p2
theorem goes_a {F : List Fc} {p0 p1 p2 p3 p4 : Int} (h : p0 < 0 ∨ (F.length : Int) ≤ p0 ∨ p1 < 0 ∨ p2 < 0) : goesB F p0 p1 p2 p3 p4 = false := if_pos h
theorem goes_b {F : List Fc} {p0 p1 p2 p3 p4 : Int} (h : ¬ (p0 < 0 ∨ (F.length : Int) ≤ p0 ∨ p1 < 0 ∨ p2 < 0)) (h2 : p3 = -1 ∧ p4 = -1) : goesB F p0 p1 p2 p3 p4 = decide (p2 = 0) := (if_neg h).trans (if_pos h2)
theorem goes_c {F : List Fc} {p0 p1 p2 p3 p4 : Int} (h : ¬ (p0 < 0 ∨ (F.length : Int) ≤ p0 ∨ p1 < 0 ∨ p2 < 0)) (h2 : ¬ (p3 = -1 ∧ p4 = -1)) (h3 : p3 < 0 ∨ (F.length : Int) ≤ p3 ∨ p4 < 0 ∨ (F.length : Int) ≤ p4) : goesB F p0 p1 p2 p3 p4 = false := (if_neg h).trans ((if_neg h2).trans (if_pos h3))
theorem goes_d {F : List Fc} {p0 p1 p2 p3 p4 : Int} (h : ¬ (p0 < 0 ∨ (F.length : Int) ≤ p0 ∨ p1 < 0 ∨ p2 < 0)) (h2 : ¬ (p3 = -1 ∧ p4 = -1)) (h3 : ¬ (p3 < 0 ∨ (F.length : Int) ≤ p3 ∨ p4 < 0 ∨ (F.length : Int) ≤ p4)) : goesB F p0 p1 p2 p3 p4 = finB (fAt F p0) (fAt F p3) (fAt F p4) p2 := (if_neg h).trans ((if_neg h2).trans (if_neg h3))
section
set_option maxHeartbeats 4000000
set_option maxRecDepth 100000
theorem isPlace_any (ao : Option Addr) (n c : Nat) (i : Int) (w : World) (hn : n ≤ maxLen) : Calls Tryz.prog 25 #[.slice ao n c, .int .i64 i] w fun e w' => e = .returned (.bool (decide (0 ≤ i ∧ i < n))) ∧ w = w' := by
  unfold maxLen at hn
  by_cases h0 : 0 ≤ i
  · have e0 : decide (0 ≤ i) = true := decide_eq_true h0
    go_enter Tryz.func25, Tryz.ntmps25
    go_wp2_with fail
    go_ret
    exact ⟨by simp [h0], rfl⟩
  · have e0 : decide (0 ≤ i) = false := decide_eq_false h0
    go_enter Tryz.func25, Tryz.ntmps25
    go_wp2_with fail
    go_ret
    exact ⟨by simp [h0], rfl⟩
theorem goes_any (pv : Value) (v : Value) (F : List Fc) (p0 p1 p2 p3 p4 : Int) (w : World) (hP : Facts w v F) (hpv : ∃ a n c, pv = .slice a n c) (hs : F.length ≤ 5864062014805) :
    Calls Tryz.prog 19 #[.agg #[v, pv], .agg #[.int .i64 p0, .int .i64 p1, .int .i64 p2, .int .i64 p3, .int .i64 p4]] w fun e w' => e = .returned (.bool (goesB F p0 p1 p2 p3 p4)) ∧ Far (fun _ => False) w w' := by
  obtain ⟨ao, ac, rfl⟩ := Src.form hP
  obtain ⟨po, pn, pc, rfl⟩ := hpv
  obtain ⟨h0, hh⟩ : ∃ h, h = w.heap.size := ⟨_, rfl⟩
  obtain ⟨h1, hh1⟩ : ∃ h, h = h0 + 1 := ⟨_, rfl⟩
  obtain ⟨w0, hw0⟩ : ∃ w0, w0 = w.alloc (.cells #[.slice ao F.length ac, .slice po pn pc] 25) := ⟨_, rfl⟩
  obtain ⟨W, hW⟩ : ∃ W, W = w0.alloc (.cells #[.int .i64 p0, .int .i64 p1, .int .i64 p2, .int .i64 p3, .int .i64 p4] 42) := ⟨_, rfl⟩
  have hz0 : w0.heap.size = h1 := by rw [hw0]; simp [hh1, hh]
  have hA : Bk W h0 25 #[.slice ao F.length ac, .slice po pn pc] := hW ▸ ((hw0 ▸ Bk.new hh : Bk w0 h0 25 #[.slice ao F.length ac, .slice po pn pc]).alloc _)
  have hB : Bk W h1 42 #[.int .i64 p0, .int .i64 p1, .int .i64 p2, .int .i64 p3, .int .i64 p4] := hW ▸ Bk.new hz0.symm
  have hF : Far (fun _ => False) w W := hW ▸ (hw0 ▸ (Far.refl _ w).alloc _ : Far (fun _ => False) w w0).alloc _
  have x0 : W.cell? ⟨h0, 0, none⟩ = some (.slice ao F.length ac) := hA.cell 0
  have b0 : W.cell? ⟨h1, 0, none⟩ = some (.int .i64 p0) := hB.cell 0
  have b1 : W.cell? ⟨h1, 1, none⟩ = some (.int .i64 p1) := hB.cell 1
  have b2 : W.cell? ⟨h1, 2, none⟩ = some (.int .i64 p2) := hB.cell 2
  have b3 : W.cell? ⟨h1, 3, none⟩ = some (.int .i64 p3) := hB.cell 3
  have b4 : W.cell? ⟨h1, 4, none⟩ = some (.int .i64 p4) := hB.cell 4
  have hQ := Lib.hid (hP.move hF)
  have hA' := Lib.hid hA
  have hB' := Lib.hid hB
  have hh' := Lib.hid hh
  have hh1' := Lib.hid hh1
  have hw0' := Lib.hid hw0
  have hW' := Lib.hid hW
  have hF' := Lib.hid hF
  clear hP hh hh1 hw0 hW hz0 hA hB hF
  go_enter Tryz.func19, Tryz.ntmps19
  go_upto_region 1 with fail
  rw [← hh'.out, ← hh1'.out, ← hw0'.out, ← hW'.out]
  by_cases q0 : p0 < 0
  · have dq0 : decide (p0 < 0) = true := decide_eq_true q0
    have hr := Lib.hid (goes_a (p3 := p3) (p4 := p4) (show p0 < 0 ∨ (F.length : Int) ≤ p0 ∨ p1 < 0 ∨ p2 < 0 by omega))
    go_wp2_with fail
    go_ret
    exact ⟨by rw [hr.out]; rfl, hF'.out⟩
  · have dq0 : decide (p0 < 0) = false := decide_eq_false q0
    by_cases r0 : (F.length : Int) ≤ p0
    · have dr0 : decide (p0 ≥ (F.length : Int)) = true := decide_eq_true r0
      have Dr0 : decide ((F.length : Int) ≤ p0) = true := decide_eq_true r0
      have hr := Lib.hid (goes_a (p3 := p3) (p4 := p4) (show p0 < 0 ∨ (F.length : Int) ≤ p0 ∨ p1 < 0 ∨ p2 < 0 by omega))
      go_wp2_with fail
      go_ret
      exact ⟨by rw [hr.out]; rfl, hF'.out⟩
    · have dr0 : decide (p0 ≥ (F.length : Int)) = false := decide_eq_false r0
      have Dr0 : decide ((F.length : Int) ≤ p0) = false := decide_eq_false r0
      by_cases q1 : p1 < 0
      · have dq1 : decide (p1 < 0) = true := decide_eq_true q1
        have hr := Lib.hid (goes_a (p3 := p3) (p4 := p4) (show p0 < 0 ∨ (F.length : Int) ≤ p0 ∨ p1 < 0 ∨ p2 < 0 by omega))
        go_wp2_with fail
        go_ret
        exact ⟨by rw [hr.out]; rfl, hF'.out⟩
      · have dq1 : decide (p1 < 0) = false := decide_eq_false q1
        by_cases q2 : p2 < 0
        · have dq2 : decide (p2 < 0) = true := decide_eq_true q2
          have hr := Lib.hid (goes_a (p3 := p3) (p4 := p4) (show p0 < 0 ∨ (F.length : Int) ≤ p0 ∨ p1 < 0 ∨ p2 < 0 by omega))
          go_wp2_with fail
          go_ret
          exact ⟨by rw [hr.out]; rfl, hF'.out⟩
        · have dq2 : decide (p2 < 0) = false := decide_eq_false q2
          have hg1 : ¬ (p0 < 0 ∨ (F.length : Int) ≤ p0 ∨ p1 < 0 ∨ p2 < 0) := by omega
          by_cases l3 : p3 = -1
          · subst l3
            by_cases l4 : p4 = -1
            · subst l4
              have hr := Lib.hid (goes_b (F := F) (p0 := p0) (p1 := p1) (p2 := p2) hg1 ⟨rfl, rfl⟩)
              go_wp2_with fail
              go_ret
              exact ⟨by rw [hr.out]; rfl, hF'.out⟩
            · have d4 : (p4 == -1) = false := by simpa using l4
              have hr := Lib.hid (goes_c (F := F) (p0 := p0) (p1 := p1) (p2 := p2) (p3 := -1) (p4 := p4) hg1 (fun h => l4 h.2) (.inl (by decide)))
              go_wp2_with fail
              go_ret
              exact ⟨by rw [hr.out]; rfl, hF'.out⟩
          · have d3 : (p3 == -1) = false := by simpa using l3
            have hg2 : ¬ (p3 = -1 ∧ p4 = -1) := fun h => l3 h.1
            by_cases q3 : p3 < 0
            · have dq3 : decide (p3 < 0) = true := decide_eq_true q3
              have hr := Lib.hid (goes_c hg1 hg2 (show p3 < 0 ∨ (F.length : Int) ≤ p3 ∨ p4 < 0 ∨ (F.length : Int) ≤ p4 by omega))
              go_wp2_with fail
              go_ret
              exact ⟨by rw [hr.out]; rfl, hF'.out⟩
            · have dq3 : decide (p3 < 0) = false := decide_eq_false q3
              by_cases r3 : (F.length : Int) ≤ p3
              · have dr3 : decide (p3 ≥ (F.length : Int)) = true := decide_eq_true r3
                have Dr3 : decide ((F.length : Int) ≤ p3) = true := decide_eq_true r3
                have hr := Lib.hid (goes_c hg1 hg2 (show p3 < 0 ∨ (F.length : Int) ≤ p3 ∨ p4 < 0 ∨ (F.length : Int) ≤ p4 by omega))
                go_wp2_with fail
                go_ret
                exact ⟨by rw [hr.out]; rfl, hF'.out⟩
              · have dr3 : decide (p3 ≥ (F.length : Int)) = false := decide_eq_false r3
                have Dr3 : decide ((F.length : Int) ≤ p3) = false := decide_eq_false r3
                by_cases q4 : p4 < 0
                · have dq4 : decide (p4 < 0) = true := decide_eq_true q4
                  have hr := Lib.hid (goes_c hg1 hg2 (show p3 < 0 ∨ (F.length : Int) ≤ p3 ∨ p4 < 0 ∨ (F.length : Int) ≤ p4 by omega))
                  go_wp2_with fail
                  go_ret
                  exact ⟨by rw [hr.out]; rfl, hF'.out⟩
                · have dq4 : decide (p4 < 0) = false := decide_eq_false q4
                  by_cases r4 : (F.length : Int) ≤ p4
                  · have dr4 : decide (p4 ≥ (F.length : Int)) = true := decide_eq_true r4
                    have Dr4 : decide ((F.length : Int) ≤ p4) = true := decide_eq_true r4
                    have hr := Lib.hid (goes_c hg1 hg2 (show p3 < 0 ∨ (F.length : Int) ≤ p3 ∨ p4 < 0 ∨ (F.length : Int) ≤ p4 by omega))
                    go_wp2_with fail
                    go_ret
                    exact ⟨by rw [hr.out]; rfl, hF'.out⟩
                  · have dr4 : decide (p4 ≥ (F.length : Int)) = false := decide_eq_false r4
                    have Dr4 : decide ((F.length : Int) ≤ p4) = false := decide_eq_false r4
                    have hr := Lib.hid (goes_d hg1 hg2 (show ¬ (p3 < 0 ∨ (F.length : Int) ≤ p3 ∨ p4 < 0 ∨ (F.length : Int) ≤ p4) by omega))
                    obtain ⟨k0, rfl⟩ : ∃ k : Nat, p0 = k := ⟨p0.toNat, by omega⟩
                    obtain ⟨k3, rfl⟩ : ∃ k : Nat, p3 = k := ⟨p3.toNat, by omega⟩
                    obtain ⟨k4, rfl⟩ : ∃ k : Nat, p4 = k := ⟨p4.toNat, by omega⟩
                    have i0 : (k0 : Int) < (F.length : Int) := by omega
                    have i3 : (k3 : Int) < (F.length : Int) := by omega
                    have i4 : (k4 : Int) < (F.length : Int) := by omega
                    obtain ⟨s, hs0⟩ : ∃ s, F[k0]? = some s := ⟨F[k0]'(by omega), List.getElem?_eq_getElem (by omega)⟩
                    obtain ⟨l, hs3⟩ : ∃ s, F[k3]? = some s := ⟨F[k3]'(by omega), List.getElem?_eq_getElem (by omega)⟩
                    obtain ⟨r, hs4⟩ : ∃ s, F[k4]? = some s := ⟨F[k4]'(by omega), List.getElem?_eq_getElem (by omega)⟩
                    have f0 : fAt F k0 = s := by simp [fAt, List.getD, hs0]
                    have f3 : fAt F k3 = l := by simp [fAt, List.getD, hs3]
                    have f4 : fAt F k4 = r := by simp [fAt, List.getD, hs4]
                    rw [f0, f3, f4] at hr
                    obtain ⟨g, off, c, eg, hgl, s0, s1, s2⟩ := hQ.out.fact hs0
                    obtain ⟨g', off', c', eg', _, l0, l1, l2⟩ := hQ.out.fact hs3
                    obtain ⟨g'', off'', c'', eg'', _, r0', r1, r2⟩ := hQ.out.fact hs4
                    rw [eg] at eg' eg''
                    simp only [Value.slice.injEq, Option.some.injEq, Addr.mk.injEq] at eg eg' eg''
                    obtain ⟨rfl, _, rfl⟩ := eg
                    obtain ⟨⟨rfl, rfl, _⟩, _, rfl⟩ := eg'
                    obtain ⟨⟨rfl, rfl, _⟩, _, rfl⟩ := eg''
                    obtain ⟨sn, sf, st⟩ := s
                    obtain ⟨ln, lf, lt⟩ := l
                    obtain ⟨rn, rf, rt⟩ := r
                    dsimp only at s0 s1 s2 l0 l1 l2 r0' r1 r2
                    have hl0 := hA'.out.lt
                    have hl1 := hB'.out.lt
                    have HK := Lib.hid (show ∀ w2, Far (fun _ => False) W w2 → w2.cell? ⟨h0, 0, none⟩ = some (.slice (some ⟨g, off, none⟩) F.length ac) ∧ w2.cell? ⟨h1, 2, none⟩ = some (.int .i64 p2) ∧ w2.cell? ⟨h1, 3, none⟩ = some (.int .i64 k3) ∧ w2.cell? ⟨h1, 4, none⟩ = some (.int .i64 k4) ∧ (w2.cell? ⟨g, off + k3 * 3, none⟩ = some (.int .i64 ln) ∧ w2.cell? ⟨g, off + k3 * 3 + 1, none⟩ = some (.int .i64 lf) ∧ w2.cell? ⟨g, off + k3 * 3 + 2, none⟩ = some (.int .i64 lt)) ∧ w2.cell? ⟨g, off + k4 * 3, none⟩ = some (.int .i64 rn) ∧ w2.cell? ⟨g, off + k4 * 3 + 1, none⟩ = some (.int .i64 rf) ∧ w2.cell? ⟨g, off + k4 * 3 + 2, none⟩ = some (.int .i64 rt) from fun w2 h => ⟨(h.cell hl0).trans x0, (h.cell hl1).trans b2, (h.cell hl1).trans b3, (h.cell hl1).trans b4, ⟨(h.cell hgl).trans l0, (h.cell hgl).trans l1, (h.cell hgl).trans l2⟩, (h.cell hgl).trans r0', (h.cell hgl).trans r1, (h.cell hgl).trans r2⟩)
                    clear f0 f3 f4 hs0 hs3 hs4 hg1 hg2
                    go_upto_region 9 with fail
                    obtain ⟨k5, hk5⟩ : ∃ k, k = W.heap.size := ⟨_, rfl⟩
                    obtain ⟨W1, hW1⟩ : ∃ W1, W1 = W.alloc (.cells #[.int .i64 sn, .int .i64 sf, .int .i64 st] 33) := ⟨_, rfl⟩
                    rw [← hk5, ← hW1]
                    have hS1 := Lib.hid (show Bk W1 k5 33 #[.int .i64 sn, .int .i64 sf, .int .i64 st] from hW1 ▸ Bk.new hk5)
                    have hf1 := Lib.hid (show Far (fun _ => False) W W1 from hW1 ▸ (Far.refl _ W).alloc _)
                    clear x0 b0 b1 b2 b3 b4 s0 s1 s2 l0 l1 l2 r0' r1 r2 hk5 hW1
                    obtain ⟨x0, b2, b3, b4, ⟨l0, l1, l2⟩, r0', r1, r2⟩ := HK.out W1 hf1.out
                    go_upto_region 10 with fail
                    obtain ⟨k6, hk6⟩ : ∃ k, k = W1.heap.size := ⟨_, rfl⟩
                    obtain ⟨W2, hW2⟩ : ∃ W2, W2 = W1.alloc (.cells #[.int .i64 ln, .int .i64 lf, .int .i64 lt] 33) := ⟨_, rfl⟩
                    rw [← hk6, ← hW2]
                    have hS2 := Lib.hid (show Bk W2 k6 33 #[.int .i64 ln, .int .i64 lf, .int .i64 lt] from hW2 ▸ Bk.new hk6)
                    have hf12 := Lib.hid (show Far (fun _ => False) W1 W2 from hW2 ▸ (Far.refl _ W1).alloc _)
                    have hf2 := Lib.hid (hf1.out.then hf12.out)
                    clear x0 b2 b3 b4 l0 l1 l2 r0' r1 r2 hk6 hW2
                    obtain ⟨x0, b2, b3, b4, ⟨l0, l1, l2⟩, r0', r1, r2⟩ := HK.out W2 hf2.out
                    go_upto_region 11 with fail
                    obtain ⟨k7, hk7⟩ : ∃ k, k = W2.heap.size := ⟨_, rfl⟩
                    obtain ⟨W3, hW3⟩ : ∃ W3, W3 = W2.alloc (.cells #[.int .i64 rn, .int .i64 rf, .int .i64 rt] 33) := ⟨_, rfl⟩
                    rw [← hk7, ← hW3]
                    have hS3 := Lib.hid (show Bk W3 k7 33 #[.int .i64 rn, .int .i64 rf, .int .i64 rt] from hW3 ▸ Bk.new hk7)
                    have hf23 := Lib.hid (show Far (fun _ => False) W2 W3 from hW3 ▸ (Far.refl _ W2).alloc _)
                    have hf3 := Lib.hid (hf2.out.then hf23.out)
                    clear x0 b2 b3 b4 l0 l1 l2 r0' r1 r2 hk7 hW3
                    obtain ⟨_, b2, _, _, _, _, _, _⟩ := HK.out W3 hf3.out
                    have s1 : W3.cell? ⟨k5, 1, none⟩ = some (.int .i64 sf) := (hS1.out.far' (hf12.out.then hf23.out) id).cell 1
                    have s2 : W3.cell? ⟨k5, 2, none⟩ = some (.int .i64 st) := (hS1.out.far' (hf12.out.then hf23.out) id).cell 2
                    have l1 : W3.cell? ⟨k6, 1, none⟩ = some (.int .i64 lf) := (hS2.out.far' hf23.out id).cell 1
                    have l2 : W3.cell? ⟨k6, 2, none⟩ = some (.int .i64 lt) := (hS2.out.far' hf23.out id).cell 2
                    have r1 : W3.cell? ⟨k7, 1, none⟩ = some (.int .i64 rf) := hS3.out.cell 1
                    have r2 : W3.cell? ⟨k7, 2, none⟩ = some (.int .i64 rt) := hS3.out.cell 2
                    have hfin := Lib.hid (show finB (sn, sf, st) (ln, lf, lt) (rn, rf, rt) p2 = decide (lf = sf ∧ lt = p2 ∧ rf = p2 ∧ rt = st) from rfl)
                    by_cases m1 : lf = sf
                    · have n1 : (lf == sf) = true := by simpa using m1
                      by_cases m2 : lt = p2
                      · have n2 : (lt == p2) = true := by simpa using m2
                        by_cases m3 : rf = p2
                        · have n3 : (rf == p2) = true := by simpa using m3
                          have hv := Lib.hid (show finB (sn, sf, st) (ln, lf, lt) (rn, rf, rt) p2 = decide (rt = st) by rw [hfin.out]; simp [m1, m2, m3])
                          clear m1 m2 m3
                          go_wp2_with fail
                          go_ret
                          exact ⟨by rw [hr.out, hv.out]; rfl, hF'.out.then hf3.out⟩
                        · have n3 : (rf == p2) = false := by simpa using m3
                          have hv := Lib.hid (show finB (sn, sf, st) (ln, lf, lt) (rn, rf, rt) p2 = false by rw [hfin.out]; simp [m3])
                          clear m1 m2 m3
                          go_wp2_with fail
                          go_ret
                          exact ⟨by rw [hr.out, hv.out]; rfl, hF'.out.then hf3.out⟩
                      · have n2 : (lt == p2) = false := by simpa using m2
                        have hv := Lib.hid (show finB (sn, sf, st) (ln, lf, lt) (rn, rf, rt) p2 = false by rw [hfin.out]; simp [m2])
                        clear m1 m2
                        go_wp2_with fail
                        go_ret
                        exact ⟨by rw [hr.out, hv.out]; rfl, hF'.out.then hf3.out⟩
                    · have n1 : (lf == sf) = false := by simpa using m1
                      have hv := Lib.hid (show finB (sn, sf, st) (ln, lf, lt) (rn, rf, rt) p2 = false by rw [hfin.out]; simp [m1])
                      clear m1
                      go_wp2_with fail
                      go_ret
                      exact ⟨by rw [hr.out, hv.out]; rfl, hF'.out.then hf3.out⟩
end
end Go.Proofs.YteoglnbmmgoibaaGreatDoor
