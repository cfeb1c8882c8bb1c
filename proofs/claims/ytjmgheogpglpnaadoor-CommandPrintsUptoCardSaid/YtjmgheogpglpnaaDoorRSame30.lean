/-
  The document's Same.
-/
import Derived.Test.YtjmgheogpglpnaaDoorSame30
namespace Go.Proofs.YtjmgheogpglpnaaDoor
open Go.RowKit
set_option linter.unusedVariables false
set_option linter.unusedSimpArgs false
section
set_option maxHeartbeats 4000000
set_option maxRecDepth 100000
theorem rsame_any (va vb : Value) (a b : CI) (w : World) (ha : CmI w va a) (hb : CmI w vb b) :
    Calls Tryd.prog 13 #[va, vb] w fun e w' => e = .returned (.bool (decide (a = b))) ∧ Far (fun _ => False) w w' := by
  have CE := @ci_ne a b
  obtain ⟨D, hD⟩ : ∃ D, D = decide (a = b) := ⟨_, rfl⟩
  rw [← hD]
  have hD1 : (a.v = b.v ∧ a.how = b.how ∧ a.names = b.names ∧ a.nums = b.nums ∧ a.text = b.text) → D = true := fun h => by rw [hD]; exact decide_eq_true (CE.2 h)
  have hD2 : ¬ (a.v = b.v ∧ a.how = b.how ∧ a.names = b.names ∧ a.nums = b.nums ∧ a.text = b.text) → D = false := fun h => by rw [hD]; exact decide_eq_false fun e => h (CE.1 e)
  clear hD CE
  obtain ⟨av, ah, an, am, ax⟩ := a
  obtain ⟨bv, bh, bn, bm, bx⟩ := b
  dsimp only at hD1 hD2
  obtain ⟨no, nc, mo, mc, rfl, hN, hM, n1, n2⟩ := ha
  obtain ⟨no', nc', mo', mc', rfl, hN', hM', n3, n4⟩ := hb
  dsimp only at hN hM n1 n2 hN' hM' n3 n4
  unfold cmdV
  dsimp only
  obtain ⟨la, hla⟩ : ∃ n, n = an.length := ⟨_, rfl⟩
  obtain ⟨lb, hlb⟩ : ∃ n, n = bn.length := ⟨_, rfl⟩
  obtain ⟨ma, hma⟩ : ∃ n, n = am.length := ⟨_, rfl⟩
  obtain ⟨mb, hmb⟩ : ∃ n, n = bm.length := ⟨_, rfl⟩
  rw [← hla, ← hlb, ← hma, ← hmb]
  rw [← hla] at n1
  rw [← hlb] at n3
  rw [← hma] at n2
  rw [← hmb] at n4
  have hla' := Lib.hid hla
  have hlb' := Lib.hid hlb
  have hma' := Lib.hid hma
  have hmb' := Lib.hid hmb
  clear hla hlb hma hmb
  obtain ⟨k1, hk1⟩ : ∃ k, k = w.heap.size := ⟨_, rfl⟩
  obtain ⟨k2, hk2⟩ : ∃ k, k = k1 + 1 := ⟨_, rfl⟩
  obtain ⟨w1, hw1⟩ : ∃ W, W = w.alloc (.cells (#[.int .i64 av, .int .i64 ah, .slice no la nc, .slice mo ma mc, .string ⟨ax.toArray⟩]) 27) := ⟨_, rfl⟩
  obtain ⟨w2, hw2⟩ : ∃ W, W = w1.alloc (.cells (#[.int .i64 bv, .int .i64 bh, .slice no' lb nc', .slice mo' mb mc', .string ⟨bx.toArray⟩]) 27) := ⟨_, rfl⟩
  have z1 : w1.heap.size = k2 := by rw [hw1]; simp [hk2, hk1]
  have hF : Far (fun _ => False) w w2 := hw2 ▸ (hw1 ▸ (Far.refl _ w).alloc _ : Far (fun _ => False) w w1).alloc _
  have hA : Bk w2 k1 27 (#[.int .i64 av, .int .i64 ah, .slice no la nc, .slice mo ma mc, .string ⟨ax.toArray⟩]) := hw2 ▸ (hw1 ▸ Bk.new hk1 : Bk w1 k1 27 (#[.int .i64 av, .int .i64 ah, .slice no la nc, .slice mo ma mc, .string ⟨ax.toArray⟩])).alloc _
  have hB : Bk w2 k2 27 (#[.int .i64 bv, .int .i64 bh, .slice no' lb nc', .slice mo' mb mc', .string ⟨bx.toArray⟩]) := hw2 ▸ Bk.new z1.symm
  have a0 : w2.cell? ⟨k1, 0, none⟩ = some (.int .i64 av) := hA.cell 0
  have a1 : w2.cell? ⟨k1, 1, none⟩ = some (.int .i64 ah) := hA.cell 1
  have a2 : w2.cell? ⟨k1, 2, none⟩ = some (.slice no la nc) := hA.cell 2
  have a3 : w2.cell? ⟨k1, 3, none⟩ = some (.slice mo ma mc) := hA.cell 3
  have a4 : w2.cell? ⟨k1, 4, none⟩ = some (.string ⟨ax.toArray⟩) := hA.cell 4
  have b0 : w2.cell? ⟨k2, 0, none⟩ = some (.int .i64 bv) := hB.cell 0
  have b1 : w2.cell? ⟨k2, 1, none⟩ = some (.int .i64 bh) := hB.cell 1
  have b2 : w2.cell? ⟨k2, 2, none⟩ = some (.slice no' lb nc') := hB.cell 2
  have b3 : w2.cell? ⟨k2, 3, none⟩ = some (.slice mo' mb mc') := hB.cell 3
  have b4 : w2.cell? ⟨k2, 4, none⟩ = some (.string ⟨bx.toArray⟩) := hB.cell 4
  have HN := Lib.hid (hN.move hF)
  have HN2 := Lib.hid (hN'.move hF)
  have HM := Lib.hid (hM.move hF)
  have HM2 := Lib.hid (hM'.move hF)
  have hD1 := Lib.hid hD1
  have hD2 := Lib.hid hD2
  have hA' := Lib.hid hA
  have hB' := Lib.hid hB
  have hF' := Lib.hid hF
  have hk1' := Lib.hid hk1
  have hk2' := Lib.hid hk2
  have hw1' := Lib.hid hw1
  have hw2' := Lib.hid hw2
  unfold maxLen at n1 n2 n3 n4
  clear hA hB hF hk1 hk2 hw1 hw2 z1 hN hN' hM hM'
  by_cases h0 : av = bv
  rotate_left
  · have hd := Lib.hid (hD2.out fun h => h0 h.1)
    go_enter Tryd.func13, Tryd.ntmps13
    go_upto_region 1 with fail
    rw [← hk1'.out, ← hk2'.out, ← hw1'.out, ← hw2'.out]
    go_wp2_with fail
    go_ret
    exact ⟨by first | rfl | (rw [hd.out]; rfl), hF'.out⟩
  subst h0
  by_cases h1 : ah = bh
  rotate_left
  · have hd := Lib.hid (hD2.out fun h => h1 h.2.1)
    go_enter Tryd.func13, Tryd.ntmps13
    go_upto_region 1 with fail
    rw [← hk1'.out, ← hk2'.out, ← hw1'.out, ← hw2'.out]
    go_wp2_with fail
    go_ret
    exact ⟨by first | rfl | (rw [hd.out]; rfl), hF'.out⟩
  subst h1
  by_cases h2 : ax = bx
  rotate_left
  · have hd := Lib.hid (hD2.out fun h => h2 h.2.2.2.2)
    have q2 : ((⟨ax.toArray⟩ : ByteArray).toList == (⟨bx.toArray⟩ : ByteArray).toList) = false := by rw [str_beq]; simpa using h2
    have q2b : (ax == bx) = false := by simpa using h2
    go_enter Tryd.func13, Tryd.ntmps13
    go_upto_region 1 with fail
    rw [← hk1'.out, ← hk2'.out, ← hw1'.out, ← hw2'.out]
    go_wp2_with fail
    go_ret
    exact ⟨by first | rfl | (rw [hd.out]; rfl), hF'.out⟩
  subst h2
  by_cases h3 : la = lb
  rotate_left
  · have hd := Lib.hid (hD2.out fun h => h3 (by rw [hla'.out, hlb'.out, h.2.2.1]))
    have q3 : ¬ ((la : Int) = (lb : Int)) := by omega
    go_enter Tryd.func13, Tryd.ntmps13
    go_upto_region 1 with fail
    rw [← hk1'.out, ← hk2'.out, ← hw1'.out, ← hw2'.out]
    go_wp2_with fail
    go_ret
    exact ⟨by first | rfl | (rw [hd.out]; rfl), hF'.out⟩
  subst h3
  by_cases h4 : ma = mb
  rotate_left
  · have hd := Lib.hid (hD2.out fun h => h4 (by rw [hma'.out, hmb'.out, h.2.2.2.1]))
    have q4 : ¬ ((ma : Int) = (mb : Int)) := by omega
    go_enter Tryd.func13, Tryd.ntmps13
    go_upto_region 1 with fail
    rw [← hk1'.out, ← hk2'.out, ← hw1'.out, ← hw2'.out]
    go_wp2_with fail
    go_ret
    exact ⟨by first | rfl | (rw [hd.out]; rfl), hF'.out⟩
  subst h4
  have hd := Lib.hid (show D = (decide (an = bn) && decide (am = bm)) by
    by_cases e1 : an = bn
    · by_cases e2 : am = bm
      · rw [decide_eq_true e1, decide_eq_true e2, hD1.out ⟨rfl, rfl, e1, e2, rfl⟩]; rfl
      · rw [decide_eq_true e1, decide_eq_false e2, hD2.out fun h => e2 h.2.2.2.1]; rfl
    · rw [decide_eq_false e1, hD2.out fun h => e1 h.2.2.1]; rfl)
  have h3' := Lib.hid (show an.length = bn.length by rw [← hla'.out, ← hlb'.out])
  have h4' := Lib.hid (show am.length = bm.length by rw [← hma'.out, ← hmb'.out])
  have hA2 := hA'
  have hB2 := hB'
  have hn' := hla'
  have hm' := hma'
  go_enter Tryd.func13, Tryd.ntmps13
  go_upto_region 1 with fail
  rw [← hk1'.out, ← hk2'.out, ← hw1'.out, ← hw2'.out]
  go_wp2_with fail
  go_loopw [5] (fun iv wr => ∃ i : Nat, iv = .int .i64 i ∧ i ≤ la ∧ an.take i = bn.take i ∧ Far (fun _ => False) w2 wr) (fun iv _ => la - (intOf iv).toNat)
  case atStart => exact ⟨0, rfl, Nat.zero_le _, rfl, Far.refl _ _⟩
  case round =>
    obtain ⟨i, rfl, hi, heq, hfw⟩ := hrel
    clear a0 a1 a2 a3 a4 b0 b1 b2 b3 b4
    have a2 : wr.cell? ⟨k1, 2, none⟩ = some (.slice no la nc) := (hA2.out.far' hfw id).cell 2
    have b2 : wr.cell? ⟨k2, 2, none⟩ = some (.slice no' la nc') := (hB2.out.far' hfw id).cell 2
    by_cases hlt : i < la
    · have e1 : decide ((i : Int) < (la : Int)) = true := by rw [decide_eq_true_eq]; omega
      have hii : (i : Int) < (la : Int) := by omega
      have k1' : i < an.length := by have := hn'.out; omega
      have k2' : i < bn.length := by have := hn'.out; have := h3'.out; omega
      obtain ⟨x, hx⟩ : ∃ x, an[i]? = some x := ⟨an[i], List.getElem?_eq_getElem k1'⟩
      obtain ⟨y, hy⟩ : ∃ y, bn[i]? = some y := ⟨bn[i], List.getElem?_eq_getElem k2'⟩
      obtain ⟨g1, o1, rfl, l1, c1⟩ := (HN.out.move hfw) (by omega)
      obtain ⟨g2, o2, rfl, l2, c2⟩ := (HN2.out.move hfw) (by omega)
      have d1 := c1 i x hx
      have d2 := c2 i y hy
      have TN := Lib.hid (take_next heq hx hy)
      have hfw' := Lib.hid hfw
      clear c1 c2 hx hy heq hfw k1' k2'
      by_cases hxy : x = y
      · subst hxy
        have TY := Lib.hid (TN.out.1 rfl)
        clear TN
        have q1 : ((⟨x.toArray⟩ : ByteArray).toList == (⟨x.toArray⟩ : ByteArray).toList) = true := by simp
        have q2 : (x == x) = true := by simp
        go_wp2_with fail
        go_quiet (fail)
        go_wp2_with fail
        exact ⟨⟨i + 1, by go_num, by omega, TY.out, hfw'.out.drewN _⟩, by simp [intOf]; omega⟩
      · have q1 : ((⟨x.toArray⟩ : ByteArray).toList == (⟨y.toArray⟩ : ByteArray).toList) = false := by rw [str_beq]; simpa using hxy
        have q2 : (x == y) = false := by simpa using hxy
        have hd1 := Lib.hid (show D = false by rw [hd.out, decide_eq_false (TN.out.2 hxy)]; rfl)
        clear hxy TN
        go_wp2_with fail
        go_quiet (fail)
        go_wp2_with fail
        go_ret
        exact ⟨by rw [hd1.out]; rfl, hF'.out.then (hfw'.out.drewN _)⟩
    · have e1 : decide ((i : Int) < (la : Int)) = false := by rw [decide_eq_false_iff_not]; omega
      have hin : i = la := by omega
      have hnames : an = bn := by
        have h := heq
        rw [hin, hn'.out, List.take_length, h3'.out, List.take_length] at h
        exact h
      have hd1 := Lib.hid (show D = decide (am = bm) by rw [hd.out, decide_eq_true hnames]; rfl)
      have hfw0 := Lib.hid hfw
      obtain ⟨wz, hwz⟩ : ∃ W, W = wr := ⟨_, rfl⟩
      rw [← hwz] at a2 b2 hfw0 ⊢
      clear hwz heq hfw hnames
      go_wp2_with fail
      go_loopw [6] (fun iv wq => ∃ j : Nat, iv = .int .i64 j ∧ j ≤ ma ∧ am.take j = bm.take j ∧ Far (fun _ => False) wz wq) (fun iv _ => ma - (intOf iv).toNat)
      case atStart => exact ⟨0, rfl, Nat.zero_le _, rfl, Far.refl _ _⟩
      case round =>
        obtain ⟨j, rfl, hj, heq, hfw⟩ := hrel
        clear a2 b2
        have hfx := hfw0.out.then hfw
        have a3 : wr.cell? ⟨k1, 3, none⟩ = some (.slice mo ma mc) := (hA2.out.far' hfx id).cell 3
        have b3 : wr.cell? ⟨k2, 3, none⟩ = some (.slice mo' ma mc') := (hB2.out.far' hfx id).cell 3
        by_cases hlt2 : j < ma
        · have e2 : decide ((j : Int) < (ma : Int)) = true := by rw [decide_eq_true_eq]; omega
          have hjj : (j : Int) < (ma : Int) := by omega
          have k1' : j < am.length := by have := hm'.out; omega
          have k2' : j < bm.length := by have := hm'.out; have := h4'.out; omega
          obtain ⟨x, hx⟩ : ∃ x, am[j]? = some x := ⟨am[j], List.getElem?_eq_getElem k1'⟩
          obtain ⟨y, hy⟩ : ∃ y, bm[j]? = some y := ⟨bm[j], List.getElem?_eq_getElem k2'⟩
          obtain ⟨g1, o1, rfl, l1, c1⟩ := (HM.out.move hfx) (by omega)
          obtain ⟨g2, o2, rfl, l2, c2⟩ := (HM2.out.move hfx) (by omega)
          have d1 := c1 j x hx
          have d2 := c2 j y hy
          have TN := Lib.hid (take_next heq hx hy)
          have hfw' := Lib.hid hfw
          have hfx' := Lib.hid hfx
          clear c1 c2 hx hy heq hfw hfx k1' k2'
          by_cases hxy : x = y
          · subst hxy
            have TY := Lib.hid (TN.out.1 rfl)
            clear TN
            have q2 : (x == x) = true := by simp
            go_wp2_with fail
            go_quiet (fail)
            go_wp2_with fail
            exact ⟨⟨j + 1, by go_num, by omega, TY.out, hfw'.out.drewN _⟩, by simp [intOf]; omega⟩
          · have q2 : (x == y) = false := by simpa using hxy
            have hd2 := Lib.hid (show D = false by rw [hd1.out, decide_eq_false (TN.out.2 hxy)])
            clear hxy TN
            go_wp2_with fail
            go_quiet (fail)
            go_wp2_with fail
            go_ret
            exact ⟨by rw [hd2.out]; rfl, hF'.out.then (hfx'.out.drewN _)⟩
        · have e2 : decide ((j : Int) < (ma : Int)) = false := by rw [decide_eq_false_iff_not]; omega
          have hjn : j = ma := by omega
          have hnums : am = bm := by
            have h := heq
            rw [hjn, hm'.out, List.take_length, h4'.out, List.take_length] at h
            exact h
          have hd2 := Lib.hid (show D = true by rw [hd1.out, decide_eq_true hnums])
          have hfx' := Lib.hid hfx
          clear hnums heq hfw hfx
          go_wp2_with fail
          go_ret
          exact ⟨by rw [hd2.out]; rfl, hF'.out.then hfx'.out⟩
end
end Go.Proofs.YtjmgheogpglpnaaDoor
