/-
  The reference's Scan and Kind.
-/
import Derived.Test.YtogobjokjpddbaaKind
namespace Go.Proofs.Ytogobjokjpddbaa
open Go.RowKit Go.Shelf
set_option linter.unusedVariables false
set_option linter.unusedSimpArgs false
theorem kd_whole {s : ByteArray} (h : kd s ≠ 0) : ml s = [(kd s, 0, s.size)] ∧ stopAt s = s.size := by
  unfold kd at h
  split at h
  · rename_i h0
    have hk : kd s = kindN (byt s 0) := by unfold kd; rw [if_pos h0]
    have e : cut (byt s) s.size 0 = ([(kindN (byt s 0), 0, s.size)], s.size) := by
      rw [cut_mark _ _ h0.1 h, h0.2, cut_end _ _ (Nat.le_refl _)]
    rw [hk]
    exact ⟨congrArg Prod.fst e, congrArg Prod.snd e⟩
  · exact absurd rfl h
theorem ml_one {s : ByteArray} {x : Nat × Nat × Nat} (h : ml s = [x]) (hk : kd s = 0) : (s.extract x.2.1 x.2.2).size ≠ s.size := by
  intro e
  obtain ⟨h1, h2, h3, h4, h5⟩ := ml_cons h
  have hle : x.2.2 ≤ s.size := by rw [h5]; exact mend_le _ _ h2
  rw [ByteArray.size_extract] at e
  have e0 : x.2.1 = 0 := by omega
  have e1 : x.2.2 = s.size := by omega
  have := (kd_yes h (by rw [e0, e1]; exact ext_all s)).2.1
  exact this hk
section
set_option maxHeartbeats 1000000
set_option maxRecDepth 100000
theorem rscan_any (s : ByteArray) (w : World) (hs : s.size ≤ 1073741824) :
    Calls Try.prog 10 #[.string s] w (ScanIs s w) := by
  have hle := stopAt_le s
  go_enter Try.func10, Try.ntmps10
  go_wp2_with fail
  refine (rcut_any s _ hs).mono ?_
  rintro e w1 ⟨⟨v, rfl, hO⟩, hb⟩
  have HO := Lib.hid hO
  have HB := Lib.hid hb
  clear hO hb
  by_cases hlt : stopAt s < s.size
  · have hd : decide ((stopAt s : Int) < (s.size : Int)) = true := by rw [decide_eq_true_eq]; omega
    go_wp2_with fail
    go_ret3
    exact ⟨by rw [if_pos hlt]; rfl, HB.out⟩
  · have hd : decide ((stopAt s : Int) < (s.size : Int)) = false := by rw [decide_eq_false_iff_not]; omega
    go_wp2_with fail
    go_ret3
    exact ⟨by rw [if_neg hlt]; exact ⟨v, rfl, HO.out⟩, HB.out⟩
theorem rkind_any (s : ByteArray) (w : World) (hs : s.size ≤ 1073741824) :
    Calls Try.prog 18 #[.string s] w fun e w' => e = .returned (.tuple #[.int .i64 (kd s), .bool (kd s != 0)]) ∧ Below w.heap.size w w' := by
  have hle := stopAt_le s
  by_cases hk : kd s = 0
  · rw [hk]
    by_cases hlt : stopAt s < s.size
    · have hd : decide ((stopAt s : Int) < (s.size : Int)) = true := by rw [decide_eq_true_eq]; omega
      go_enter Try.func18, Try.ntmps18
      go_wp2_with fail
      refine (rcut_any s _ hs).mono ?_
      rintro e w1 ⟨⟨v, rfl, hO⟩, hb⟩
      have HB := Lib.hid hb
      clear hO hb hk
      go_wp2_with fail
      go_ret2
      exact ⟨rfl, HB.out⟩
    · have hd : decide ((stopAt s : Int) < (s.size : Int)) = false := by rw [decide_eq_false_iff_not]; omega
      by_cases hn : (ml s).length = 1
      · obtain ⟨x, hx⟩ : ∃ x, ml s = [x] := by
          match hm : ml s, hn with
          | [x], _ => exact ⟨x, rfl⟩
        have hne := ml_one hx hk
        have hz : (s.extract x.2.1 x.2.2).size ≤ s.size := by rw [ByteArray.size_extract]; omega
        go_enter Try.func18, Try.ntmps18
        go_wp2_with fail
        refine (rcut_any s _ hs).mono ?_
        rintro e w1 ⟨⟨v, rfl, hO⟩, hb⟩
        rw [hx] at hO
        obtain ⟨g, cap, rfl, hg1, hg2⟩ := World.ownsRow.form hO.row (by simp [txt])
        have c2 := (hO.row.cellAt 2 (by simp [txt])).trans (show _ = some (Value.string (s.extract x.2.1 x.2.2)) from rfl)
        generalize s.extract x.2.1 x.2.2 = y at *
        have hne' : ((y.size : Int) != (s.size : Int)) = true := by simp; omega
        have HB := Lib.hid hb
        clear hO hb hk hx hne hn
        simp only [txt, List.map_cons, List.map_nil, List.length_cons, List.length_nil]
        go_wp2_with fail
        go_ret2
        exact ⟨rfl, HB.out⟩
      · go_enter Try.func18, Try.ntmps18
        go_wp2_with fail
        refine (rcut_any s _ hs).mono ?_
        rintro e w1 ⟨⟨v, rfl, hO⟩, hb⟩
        have hl : ∃ a cap, v = .slice a (ml s).length cap := by
          rcases hO.row.2 with ⟨rfl, h0⟩ | ⟨g, cap, cur, rfl, _⟩
          · exact ⟨none, 0, by rw [txt_length] at h0; rw [h0]⟩
          · exact ⟨_, _, by rw [txt_length]⟩
        obtain ⟨a, cap, rfl⟩ := hl
        have hne' : (((ml s).length : Int) != 1) = true := by simp; omega
        have HB := Lib.hid hb
        clear hO hb hk hn
        go_wp2_with fail
        go_ret2
        exact ⟨rfl, HB.out⟩
  · obtain ⟨hm, hst⟩ := kd_whole hk
    have hkb : (kd s != 0) = true := by simpa using hk
    rw [hkb]
    have hd : decide ((stopAt s : Int) < (s.size : Int)) = false := by rw [decide_eq_false_iff_not]; omega
    have hge : s.size ≤ stopAt s := by omega
    go_enter Try.func18, Try.ntmps18
    go_wp2_with fail
    refine (rcut_any s _ hs).mono ?_
    rintro e w1 ⟨⟨v, rfl, hO⟩, hb⟩
    rw [hm] at hO
    obtain ⟨g, cap, rfl, hg1, hg2⟩ := World.ownsRow.form hO.row (by simp [txt])
    have c2 := (hO.row.cellAt 2 (by simp [txt])).trans (show _ = some (Value.string (s.extract 0 s.size)) from rfl)
    have c0 := (hO.row.cellAt 0 (by simp [txt])).trans (show _ = some (Value.int .i64 (kd s)) from rfl)
    rw [ext_all] at c2
    have hne' : ((s.size : Int) != (s.size : Int)) = false := by simp
    have HB := Lib.hid hb
    clear hO hb hk hm hst hkb
    simp only [txt, List.map_cons, List.map_nil, List.length_cons, List.length_nil]
    go_wp2_with fail
    go_ret2
    exact ⟨rfl, HB.out⟩
end
end Go.Proofs.Ytogobjokjpddbaa
