/-
  The reference's Cut.
-/
import Derived.Test.YtogobjokjpddbaaOwn
import Derived.LoopN
namespace Go.Proofs.Ytogobjokjpddbaa
open Go.RowKit
set_option linter.unusedVariables false
set_option linter.unusedSimpArgs false
theorem ml_all (s : ByteArray) : (ml s).length ≤ s.size := by
  have := (cut_facts (byt s) s.size _ 0 (Nat.zero_le _) rfl).2.2.2.2
  simpa [ml] using this
/-- The place of the first byte that begins no mark; the text's length. -/
def stopAt (s : ByteArray) : Nat := (cut (byt s) s.size 0).2
theorem stopAt_le (s : ByteArray) : stopAt s ≤ s.size := (cut_facts (byt s) s.size _ 0 (Nat.zero_le _) rfl).2.2.1
section
set_option maxHeartbeats 2000000
set_option maxRecDepth 100000
theorem rcut_any (s : ByteArray) (w : World) (hs : s.size ≤ 1073741824) :
    Calls Try.prog 12 #[.string s] w fun e w' => (∃ v, e = .returned (.tuple #[v, .int .i64 (stopAt s)]) ∧ OwnM w.heap.size w' v (txt s (ml s))) ∧ Below w.heap.size w w' := by
  obtain ⟨i0, hi, hz0, hz1, hz2⟩ := info_parts markInfo
  have hml := ml_all s
  go_enter Try.func12, Try.ntmps12
  go_wp2_with fail
  go_loopw [4, 5] (fun v iv wr => ∃ (i : Nat) (pre : List (Nat × Nat × Nat)), iv = .int .i64 i ∧ i ≤ s.size ∧ pre ++ (cut (byt s) s.size i).1 = ml s ∧ (cut (byt s) s.size i).2 = stopAt s ∧ OwnM w.heap.size wr v (txt s pre) ∧ Below w.heap.size w wr) (fun _ iv _ => s.size - (intOf iv).toNat)
  case atStart => exact ⟨0, [], rfl, Nat.zero_le _, rfl, rfl, World.ownsRow_nil _ _ _ _, Below.refl _ _⟩
  case round =>
    obtain ⟨i, pre, rfl, hi', hpre, hst, hO, db⟩ := hrel
    have HO := Lib.hid hO
    clear hO
    by_cases hlt : i < s.size
    · have hdk : decide ((i : Int) < (s.size : Int)) = true := by rw [decide_eq_true_eq]; omega
      have hc : s[i].toNat < 256 := UInt8.toNat_lt _
      have hbyt := byt_eq hlt
      by_cases hb : blankN (byt s i) = true
      · rw [cut_blank _ _ hlt hb] at hpre hst
        have hb' : blankN s[i].toNat = true := by rw [hbyt]; exact hb
        have HP := Lib.hid hpre
        have HS := Lib.hid hst
        clear hpre hst hb hbyt
        go_wp2_with fail
        refine (rBlank_any _ _).mono ?_
        rintro e w' ⟨rfl, rfl⟩
        rw [hb']
        go_wp2_with fail
        go_roundw
        case rel => exact ⟨i + 1, pre, by go_num, by omega, HP.out, HS.out, HO.out, db⟩
        case measure => simp [intOf]; omega
      · have hb' : blankN s[i].toNat = false := by rw [hbyt]; simpa using hb
        by_cases hk : kindN (byt s i) = 0
        · have hk' : ((kindN s[i].toNat : Int) == 0) = true := by rw [hbyt, hk]; rfl
          rw [cut_none _ _ hlt hk (by simpa using hb)] at hpre hst
          rw [List.append_nil] at hpre
          have HP := Lib.hid hpre
          have HS := Lib.hid hst
          clear hpre hst hb hbyt hk
          go_wp2_with fail
          refine (rBlank_any _ _).mono ?_
          rintro e w' ⟨rfl, rfl⟩
          rw [hb']
          go_wp2_with fail
          refine (begins_any _ _ hc).mono ?_
          rintro e w' ⟨rfl, rfl⟩
          go_wp2_with fail
          go_ret2
          exact ⟨⟨_, ret2 rfl (vint (by rw [← HS.out])), by rw [← HP.out]; exact HO.out⟩, db⟩
        · have hk' : ((kindN s[i].toNat : Int) == 0) = false := by rw [hbyt]; simp; omega
          have hgt := mend_gt (byt s) s.size i
          have hle := mend_le (byt s) s.size hlt
          have hmd : mend (byt s) s.size i = if kindN s[i].toNat ≤ 3 then run (byt s) s.size innerN (i + 1) else i + 1 := by rw [hbyt]; rfl
          rw [cut_mark _ _ hlt hk] at hpre hst
          have hlen : pre.length < (ml s).length := by rw [← hpre]; simp
          rw [← hbyt] at hpre
          have hnext : (pre ++ [(kindN s[i].toNat, i, mend (byt s) s.size i)]) ++ (cut (byt s) s.size (mend (byt s) s.size i)).1 = ml s := by
            rw [← hpre]; simp
          have HN := Lib.hid hnext
          have HS := Lib.hid hst
          have HM := Lib.hid hmd
          clear hpre hst hb hbyt hk hmd hnext
          go_wp2_with fail
          refine (rBlank_any _ _).mono ?_
          rintro e w' ⟨rfl, rfl⟩
          rw [hb']
          go_wp2_with fail
          refine (begins_any _ _ hc).mono ?_
          rintro e w' ⟨rfl, rfl⟩
          generalize hke : kindN s[i].toNat = k at *
          have HK := Lib.hid hke
          clear hke
          obtain ⟨wo, rfl⟩ : ∃ wo : World, wo = wr := ⟨_, rfl⟩
          by_cases h3 : k ≤ 3
          · have HM' := HM.out
            rw [if_pos h3] at HM'
            have HM := Lib.hid HM'
            clear HM'
            have hd3 : decide ((k : Int) ≤ 3) = true := by rw [decide_eq_true_eq]; omega
            go_wp2_with fail
            go_loop [7] (fun jv => ∃ j : Nat, jv = .int .i64 j ∧ j ≤ s.size ∧ i < j ∧ run (byt s) s.size innerN j = mend (byt s) s.size i) (fun jv => s.size - (intOf jv).toNat)
            case atStart => exact ⟨i + 1, by go_num, by omega, by omega, HM.out.symm⟩
            case round =>
              obtain ⟨j, rfl, hj, hij, hrun⟩ := hrel
              have hgt' := hgt
              by_cases hjs : j < s.size
              · have hdj : decide ((j : Int) < (s.size : Int)) = true := by rw [decide_eq_true_eq]; omega
                have hbj := byt_eq hjs
                cases hin : innerN (byt s j)
                · rw [run_stop _ _ hin] at hrun
                  have HE := Lib.hid hrun
                  have hin' : innerN s[j].toNat = false := by rw [hbj]; exact hin
                  clear hin hbj hrun
                  go_wp2_with fail
                  refine (rInner_any _ _).mono ?_
                  rintro e w' ⟨rfl, rfl⟩
                  rw [hin']
                  have hsl := slice_at s i j (by omega) (by omega)
                  skip
                  go_wp2_with (at_builtin; refine wpList_append_own _ rfl _ _ 22 rfl w.heap.size 29 i0 (.agg #[.int .i64 0, .int .i64 0, .string ⟨#[]⟩]) 3 32 markType hi hz0 hz1 hz2 rfl (by decide) _ _ _ rfl (HO.out.row.alloc _) _ 1 1 [.int .i64 (k : Int), .int .i64 (i : Int), .string (s.extract i j)] rfl rfl ?d1 ?d2 ?d3 ?d4 ?d5 ?_)
                  try
                    case d1 =>
                      intro m u hm
                      match m, hm with
                      | 0, hm => simp at hm; subst hm; simp only [Addr.add, if_pos]; exact (new_cell _ _ _ _ 0 (by simp)).trans rfl
                      | 1, hm => simp at hm; subst hm; exact (new_cell _ _ _ _ 1 (by simp)).trans rfl
                      | 2, hm => simp at hm; subst hm; exact (new_cell _ _ _ _ 2 (by simp)).trans rfl
                  case d2 => first | exact ⟨rfl, rfl, rfl⟩ | (intro u hu; simp at hu; rcases hu with rfl | rfl | rfl <;> rfl)
                  case d3 => rw [txt_length]; unfold maxLen; omega
                  case d4 => rw [txt_length]; omega
                  case d5 => have := db.size; simp; omega
                  · intro v' w5 hown hgrow _
                    have hO5 : OwnM w.heap.size w5 v' (txt s (pre ++ [(k, i, j)])) := by
                      unfold OwnM; rw [txt_append, flatM_append, List.length_append]; exact hown
                    have hb5 : Below w.heap.size wo w5 := ((Below.refl _ _).alloc db.size _).trans ((Below.refl _ _).grown hgrow (by simp; have := db.size; omega) (fun q hq => (HO.out.row.lt q hq).1))
                    have db5 := db.trans hb5
                    clear hown hgrow HO db hb5
                    go_wp2_with fail
                    go_roundw
                    case rel => exact ⟨j, _, by first | rfl | go_num, by omega, by rw [HE.out]; exact HN.out, by rw [HE.out]; exact HS.out, hO5, db5⟩
                    case measure => simp [intOf]; omega
                · rw [run_step _ _ hjs hin] at hrun
                  have HE := Lib.hid hrun
                  have hin' : innerN s[j].toNat = true := by rw [hbj]; exact hin
                  clear hin hbj hrun
                  go_wp2_with fail
                  refine (rInner_any _ _).mono ?_
                  rintro e w' ⟨rfl, rfl⟩
                  rw [hin']
                  go_wp2_with fail
                  go_round
                  case rel => exact ⟨j + 1, by go_num, by omega, by omega, HE.out⟩
                  case measure => simp [intOf]; omega
              · rw [run_end _ _ (by omega)] at hrun
                have HE := Lib.hid hrun
                clear hrun
                have hdj : decide ((j : Int) < (s.size : Int)) = false := by rw [decide_eq_false_iff_not]; omega
                have hsl := slice_at s i j (by omega) (by omega)
                skip
                go_wp2_with (at_builtin; refine wpList_append_own _ rfl _ _ 22 rfl w.heap.size 29 i0 (.agg #[.int .i64 0, .int .i64 0, .string ⟨#[]⟩]) 3 32 markType hi hz0 hz1 hz2 rfl (by decide) _ _ _ rfl (HO.out.row.alloc _) _ 1 1 [.int .i64 (k : Int), .int .i64 (i : Int), .string (s.extract i j)] rfl rfl ?g1 ?g2 ?g3 ?g4 ?g5 ?_)
                try
                  case g1 =>
                    intro m u hm
                    match m, hm with
                    | 0, hm => simp at hm; subst hm; simp only [Addr.add, if_pos]; exact (new_cell _ _ _ _ 0 (by simp)).trans rfl
                    | 1, hm => simp at hm; subst hm; exact (new_cell _ _ _ _ 1 (by simp)).trans rfl
                    | 2, hm => simp at hm; subst hm; exact (new_cell _ _ _ _ 2 (by simp)).trans rfl
                case g2 => first | exact ⟨rfl, rfl, rfl⟩ | (intro u hu; simp at hu; rcases hu with rfl | rfl | rfl <;> rfl)
                case g3 => rw [txt_length]; unfold maxLen; omega
                case g4 => rw [txt_length]; omega
                case g5 => have := db.size; simp; omega
                · intro v' w5 hown hgrow _
                  have hO5 : OwnM w.heap.size w5 v' (txt s (pre ++ [(k, i, j)])) := by
                    unfold OwnM; rw [txt_append, flatM_append, List.length_append]; exact hown
                  have hb5 : Below w.heap.size wo w5 := ((Below.refl _ _).alloc db.size _).trans ((Below.refl _ _).grown hgrow (by simp; have := db.size; omega) (fun q hq => (HO.out.row.lt q hq).1))
                  have db5 := db.trans hb5
                  clear hown hgrow HO db hb5
                  go_wp2_with fail
                  go_roundw
                  case rel => exact ⟨j, _, by first | rfl | go_num, by omega, by rw [HE.out]; exact HN.out, by rw [HE.out]; exact HS.out, hO5, db5⟩
                  case measure => simp [intOf]; omega
          · have HM' := HM.out
            rw [if_neg h3] at HM'
            have HE := Lib.hid HM'.symm
            clear HM' HM
            have hd3 : decide ((k : Int) ≤ 3) = false := by rw [decide_eq_false_iff_not]; omega
            go_wp2_with fail
            refine wp_loop_rounds 1 ?_
            rw [rounds_succ]
            have hsl := slice_at s i (i + 1) (by omega) (by omega)
            rw [show (((i + 1) : Nat) : Int) = (i : Int) + 1 by omega] at hsl
            go_wp2_with (at_builtin; refine wpList_append_own _ rfl _ _ 22 rfl w.heap.size 29 i0 (.agg #[.int .i64 0, .int .i64 0, .string ⟨#[]⟩]) 3 32 markType hi hz0 hz1 hz2 rfl (by decide) _ _ _ rfl (HO.out.row.alloc _) _ 1 1 [.int .i64 (k : Int), .int .i64 (i : Int), .string (s.extract i (i + 1))] rfl rfl ?f1 ?f2 ?f3 ?f4 ?f5 ?_)
            try
              case f1 =>
                intro m u hm
                match m, hm with
                | 0, hm => simp at hm; subst hm; simp only [Addr.add, if_pos]; exact (new_cell _ _ _ _ 0 (by simp)).trans rfl
                | 1, hm => simp at hm; subst hm; exact (new_cell _ _ _ _ 1 (by simp)).trans rfl
                | 2, hm => simp at hm; subst hm; exact (new_cell _ _ _ _ 2 (by simp)).trans rfl
            case f2 => first | exact ⟨rfl, rfl, rfl⟩ | (intro u hu; simp at hu; rcases hu with rfl | rfl | rfl <;> rfl)
            case f3 => rw [txt_length]; unfold maxLen; omega
            case f4 => rw [txt_length]; omega
            case f5 => have := db.size; simp; omega
            · intro v' w5 hown hgrow _
              have hO5 : OwnM w.heap.size w5 v' (txt s (pre ++ [(k, i, (i + 1))])) := by
                unfold OwnM; rw [txt_append, flatM_append, List.length_append]; exact hown
              have hb5 : Below w.heap.size wo w5 := ((Below.refl _ _).alloc db.size _).trans ((Below.refl _ _).grown hgrow (by simp; have := db.size; omega) (fun q hq => (HO.out.row.lt q hq).1))
              have db5 := db.trans hb5
              clear hown hgrow HO db hb5
              go_wp2_with fail
              go_roundw
              case rel => exact ⟨(i + 1), _, by first | rfl | go_num, by omega, by rw [HE.out]; exact HN.out, by rw [HE.out]; exact HS.out, hO5, db5⟩
              case measure => simp [intOf]; omega
    · have E := Lib.hid (show (s.size : Int) = (stopAt s : Int) by rw [← hst, cut_end _ _ (by omega)])
      rw [cut_end _ _ (by omega), List.append_nil] at hpre
      have HP := Lib.hid hpre
      clear hpre hst
      go_wp2_with fail
      go_ret2
      exact ⟨⟨_, ret2 rfl (vint E.out), by rw [← HP.out]; exact HO.out⟩, db⟩
end
end Go.Proofs.Ytogobjokjpddbaa
