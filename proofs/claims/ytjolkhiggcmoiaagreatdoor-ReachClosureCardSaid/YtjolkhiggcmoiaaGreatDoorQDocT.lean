/-
  The document's matrices: Turn, place, Has.
-/
import Derived.Test.YtjolkhiggcmoiaaGreatDoorQDocS
import Derived.Deep.RegionHeld3
import Derived.Deep.AppendLies
namespace Go.Proofs.YtjolkhiggcmoiaaGreatDoor
open Go.RowKit Go.Shelf
set_option linter.unusedVariables false
set_option linter.unusedSimpArgs false
theorem quo_two (t : Nat) : (t : Int) / 2 = ((t / 2 : Nat) : Int) ∧ (t : Int).tdiv 2 = ((t / 2 : Nat) : Int) := by
  have h : (t : Int) / 2 = ((t / 2 : Nat) : Int) := by omega
  exact ⟨h, by rw [Int.tdiv_eq_ediv_of_nonneg (Int.natCast_nonneg _)]; exact h⟩
theorem rise_ltL {L : List (Nat × Nat)} (h : L.Pairwise lexLt) {i j : Nat} {x y : Nat × Nat} (hi : L[i]? = some x) (hj : L[j]? = some y) (hij : i < j) : lexLt x y := by
  obtain ⟨h1, rfl⟩ := List.getElem?_eq_some_iff.1 hi
  obtain ⟨h2, rfl⟩ := List.getElem?_eq_some_iff.1 hj
  exact List.pairwise_iff_getElem.1 h i j h1 h2 hij
theorem lex_trans {x y z : Nat × Nat} (h1 : lexLt x y) (h2 : lexLt y z) : lexLt x z := by unfold lexLt at *; omega
theorem lex_irr {x : Nat × Nat} (h : lexLt x x) : False := by unfold lexLt at h; omega
section
set_option maxHeartbeats 8000000
set_option maxRecDepth 100000
theorem place_any (L : List (Nat × Nat)) (hr : L.Pairwise lexLt) (n : Nat) (hn : n = L.length) (hn2 : n ≤ 4194304) (ao : Option Addr) (cap : Nat) (c1 c2 : Nat) (w : World) (hP : PL w ao L) :
    Calls Tryz.prog 87 #[.slice ao n cap, .agg #[.int .i64 (c1 : Nat), .int .i64 (c2 : Nat)]] w fun e w' => ∃ low : Nat, e = .returned (.tuple #[.int .i64 (low : Nat), .bool (decide ((c1, c2) ∈ L))]) ∧ Far (fun _ => False) w w' := by
  obtain ⟨bb, hbb⟩ : ∃ b, decide ((c1, c2) ∈ L) = b := ⟨_, rfl⟩
  rw [hbb]
  have hbb' := Lib.hid hbb
  clear hbb
  obtain ⟨h3, hh3⟩ : ∃ h, h = w.heap.size := ⟨_, rfl⟩
  obtain ⟨W0, hW0⟩ : ∃ V, V = w.alloc (.cells #[.int .i64 (c1 : Nat), .int .i64 (c2 : Nat)] 71) := ⟨_, rfl⟩
  have hF0 : Far (fun _ => False) w W0 := hW0 ▸ (Far.refl _ w).alloc _
  have hB3 : Bk W0 h3 71 #[.int .i64 (c1 : Nat), .int .i64 (c2 : Nat)] := hW0 ▸ Bk.new hh3
  have HB := Lib.hid (show ∀ V, Far (fun _ => False) W0 V → (V.cell? ⟨h3, 0, none⟩ = some (.int .i64 (c1 : Nat)) ∧ V.cell? ⟨h3, 1, none⟩ = some (.int .i64 (c2 : Nat))) ∧ PL V ao L from fun V hf => ⟨⟨(hB3.far' hf id).cell 0, (hB3.far' hf id).cell 1⟩, hP.move (hF0.then hf)⟩)
  have hF0' := Lib.hid hF0
  have hW0' := Lib.hid hW0
  have hh3' := Lib.hid hh3
  have hn' := Lib.hid hn
  have hr' := Lib.hid hr
  clear hP hF0 hB3 hW0 hh3 hn hr
  go_enter Tryz.func87, Tryz.ntmps87
  go_upto_region 1 with fail
  rw [← hh3'.out, ← hW0'.out]
  go_wp2_with fail
  go_loopw [6, 7] (fun lv hv wr => ∃ lo hi : Nat, lo ≤ hi ∧ hi ≤ n ∧ lv = .int .i64 (lo : Nat) ∧ hv = .int .i64 (hi : Nat) ∧ (∀ (k : Nat) (x : Nat × Nat), k < lo → L[k]? = some x → lexLt x (c1, c2)) ∧ (∀ (k : Nat) (x : Nat × Nat), hi ≤ k → L[k]? = some x → ¬ lexLt x (c1, c2)) ∧ Far (fun _ => False) W0 wr) (fun lv hv _ => (intOf hv).toNat - (intOf lv).toNat)
  case atStart => exact ⟨0, n, Nat.zero_le _, Nat.le_refl _, rfl, rfl, fun k x h => absurd h (Nat.not_lt_zero _), fun k x h hx => by
    have h1 := (List.getElem?_eq_some_iff.1 hx).1
    have := hn'.out
    omega, Far.refl _ _⟩
  case round =>
    obtain ⟨lo, hi, hlh, hhn, rfl, rfl, hA, hB, hf⟩ := hrel
    obtain ⟨wd, hwd⟩ : ∃ wd, wd = wr := ⟨_, rfl⟩
    rw [← hwd] at hf ⊢
    clear hwd
    obtain ⟨⟨b0, b1⟩, hPd⟩ := HB.out wd hf
    by_cases hlt : lo < hi
    · have hli : (lo : Int) < (hi : Int) := by omega
      obtain ⟨t, ht⟩ : ∃ t, t = lo + hi := ⟨_, rfl⟩
      obtain ⟨mid, hmid⟩ : ∃ m, m = t / 2 := ⟨_, rfl⟩
      have hadd : (lo : Int) + (hi : Int) = (t : Int) := by omega
      have hwt : IntKind.i64.wrap (t : Int) = (t : Int) := by rw [IntKind.wrap_i64]; omega
      have hq : (t : Int) / 2 = (mid : Int) ∧ (t : Int).tdiv 2 = (mid : Int) := by
        have h := quo_two t
        rw [← hmid] at h
        exact h
      obtain ⟨hq1, hq2⟩ := hq
      have hwm := wrap_n (m := mid) (by omega)
      have hm1 : lo ≤ mid := by omega
      have hm2 : mid < hi := by omega
      have hmn : (mid : Int) < (n : Int) := by omega
      have hm0 : (0 : Int) ≤ (mid : Int) := by omega
      have hmb : (mid : Int) + 1 ≤ 9223372036854775807 := by omega
      obtain ⟨⟨x1, x2⟩, hx⟩ := atS (l := L) (k := mid) (by have := hn'.out; omega)
      obtain ⟨ga, oa, rfl, hga, pa0, pa1⟩ := hPd.at hx
      have BF := Lib.hid (fun w => before_any x1 x2 c1 c2 w)
      obtain ⟨q, hqq⟩ : ∃ q, decide (lexLt (x1, x2) (c1, c2)) = q := ⟨_, rfl⟩
      rw [hqq] at BF
      have HS := Lib.hid (show ∀ V, Far (fun _ => False) W0 V → V.cell? ⟨h3, 0, none⟩ = some (.int .i64 (c1 : Nat)) ∧ V.cell? ⟨h3, 1, none⟩ = some (.int .i64 (c2 : Nat)) ∧ V.cell? ⟨ga, oa + mid * 2, none⟩ = some (.int .i64 (x1 : Nat)) ∧ V.cell? ⟨ga, oa + mid * 2 + 1, none⟩ = some (.int .i64 (x2 : Nat)) from fun V hV => by
        obtain ⟨⟨q0, q1⟩, hQ⟩ := HB.out V hV
        obtain ⟨g, o, e, _, r0, r1⟩ := hQ.at hx
        cases e
        exact ⟨q0, q1, r0, r1⟩)
      have hx' := Lib.hid hx
      have hqq' := Lib.hid hqq
      have hA' := Lib.hid hA
      have hB' := Lib.hid hB
      have hfd := Lib.hid (hf.then (Far.refl (fun _ => False) wd).drew)
      clear hx hqq hA hB hf hPd ht hmid
      go_upto_region 4 with fail
      clear hq1 hq2
      go_cut [23] (fun tv wc => tv = .bool q ∧ Far (fun _ => False) W0 wc)
      case first =>
        go_region_held3 (fun V => V.cell? ⟨h3, 0, none⟩ = some (.int .i64 (c1 : Nat)) ∧ V.cell? ⟨h3, 1, none⟩ = some (.int .i64 (c2 : Nat)) ∧ V.cell? ⟨ga, oa + mid * 2, none⟩ = some (.int .i64 (x1 : Nat)) ∧ V.cell? ⟨ga, oa + mid * 2 + 1, none⟩ = some (.int .i64 (x2 : Nat))) (first | exact HS.out _ hf9'.out | exact HS.out _ hfd.out)
          ((go_at_call 118; (with_reducible refine (BF.out _).mono ?_); rintro e w9 ⟨rfl, hf9⟩; have hf9' := Lib.hid (hfd.out.then hf9); clear hf9))
        all_goals
          go_wp2_with fail
          go_meet
          exact ⟨rfl, hf9'.out⟩
      case rest =>
        obtain ⟨rfl, hfc⟩ := hcut
        have hfc' := Lib.hid hfc
        clear hfc b0 b1 pa0 pa1
        cases q with
        | true =>
          have hlx := of_decide_eq_true hqq'.out
          have hA2 := Lib.hid (show ∀ (k : Nat) (x : Nat × Nat), k < mid + 1 → L[k]? = some x → lexLt x (c1, c2) from fun k x hk hx => by
            by_cases e : k = mid
            · subst e
              rw [hx'.out] at hx
              cases hx
              exact hlx
            · exact lex_trans (rise_ltL hr'.out hx hx'.out (by omega)) hlx)
          go_wp2_with fail
          go_roundw
          case rel => exact ⟨mid + 1, hi, by omega, by omega, by go_num, rfl, hA2.out, hB'.out, hfc'.out⟩
          case measure => simp only [intOf]; omega
        | false =>
          have hlx := of_decide_eq_false hqq'.out
          have hB2 := Lib.hid (show ∀ (k : Nat) (x : Nat × Nat), mid ≤ k → L[k]? = some x → ¬ lexLt x (c1, c2) from fun k x hk hx => by
            by_cases e : k = mid
            · subst e
              rw [hx'.out] at hx
              cases hx
              exact hlx
            · exact fun h => hlx (lex_trans (rise_ltL hr'.out hx'.out hx (by omega)) h))
          go_wp2_with fail
          go_roundw
          case rel => exact ⟨lo, mid, by omega, by omega, rfl, rfl, hA'.out, hB2.out, hfc'.out⟩
          case measure => simp only [intOf]; omega
    · have e : lo = hi := by omega
      subst e
      have hli : ¬ (lo : Int) < (lo : Int) := by omega
      by_cases hln : lo < n
      · have hlni : (lo : Int) < (n : Int) := by omega
        have dl : decide ((lo : Int) < (n : Int)) = true := decide_eq_true hlni
        have hl0 : (0 : Int) ≤ (lo : Int) := by omega
        obtain ⟨⟨x1, x2⟩, hx⟩ := atS (l := L) (k := lo) (by have := hn'.out; omega)
        obtain ⟨ga, oa, rfl, hga, pa0, pa1⟩ := hPd.at hx
        have hnl := hB lo _ (Nat.le_refl _) hx
        have hin : decide ((c1, c2) ∈ L) = decide (x1 = c1 ∧ x2 = c2) := by
          rw [decide_eq_decide]
          constructor
          · intro h
            obtain ⟨k, hk⟩ := List.getElem?_of_mem h
            by_cases e1 : k < lo
            · exact absurd (hA k _ e1 hk) lex_irr
            · by_cases e2 : k = lo
              · subst e2
                rw [hx] at hk
                cases hk
                exact ⟨rfl, rfl⟩
              · exact absurd (rise_ltL hr'.out hx hk (by omega)) hnl
          · rintro ⟨rfl, rfl⟩
            exact List.mem_of_getElem? hx
        replace hin := hbb'.out.symm.trans hin
        have hf' := Lib.hid hf
        clear hx hnl hA hB hf hPd
        by_cases e1 : x1 = c1
        · subst e1
          by_cases e2 : x2 = c2
          · subst e2
            rw [decide_eq_true ⟨rfl, rfl⟩] at hin
            subst hin
            go_upto_region 7 with fail
            go_quiet (fail)
            obtain ⟨we, hwe⟩ : ∃ we, we = wd.drewN nq := ⟨_, rfl⟩
            have hfe := Lib.hid (show Far (fun _ => False) W0 we from hwe ▸ (hf'.out).drewN nq)
            rw [← hwe]
            clear hwe
            go_wp2_with fail
            (try rw [Exit.noGoto_ret])
            (try simp only [Exit.inBlock, Exit.then])
            refine bodyPost_ret (v := .tuple #[.int .i64 (lo : Nat), .bool true]) (by simp [results, Tryz.f87, go_sem]) rfl ?_
            exact ⟨⟨lo, rfl⟩, hF0'.out.then hfe.out⟩
          · rw [decide_eq_false (fun h => e2 h.2)] at hin
            subst hin
            have h2 : ¬ (x2 : Int) = (c2 : Int) := by omega
            go_upto_region 7 with fail
            go_quiet (fail)
            obtain ⟨we, hwe⟩ : ∃ we, we = wd.drewN nq := ⟨_, rfl⟩
            have hfe := Lib.hid (show Far (fun _ => False) W0 we from hwe ▸ (hf'.out).drewN nq)
            rw [← hwe]
            clear hwe
            go_wp2_with fail
            (try rw [Exit.noGoto_ret])
            (try simp only [Exit.inBlock, Exit.then])
            refine bodyPost_ret (v := .tuple #[.int .i64 (lo : Nat), .bool false]) (by simp [results, Tryz.f87, go_sem]) rfl ?_
            exact ⟨⟨lo, rfl⟩, hF0'.out.then hfe.out⟩
        · rw [decide_eq_false (fun h => e1 h.1)] at hin
          subst hin
          have h1 : ¬ (x1 : Int) = (c1 : Int) := by omega
          go_upto_region 7 with fail
          go_quiet (fail)
          obtain ⟨we, hwe⟩ : ∃ we, we = wd.drewN nq := ⟨_, rfl⟩
          have hfe := Lib.hid (show Far (fun _ => False) W0 we from hwe ▸ (hf'.out).drewN nq)
          rw [← hwe]
          clear hwe
          go_wp2_with fail
          (try rw [Exit.noGoto_ret])
          (try simp only [Exit.inBlock, Exit.then])
          refine bodyPost_ret (v := .tuple #[.int .i64 (lo : Nat), .bool false]) (by simp [results, Tryz.f87, go_sem]) rfl ?_
          exact ⟨⟨lo, rfl⟩, hF0'.out.then hfe.out⟩
      · have hlni : ¬ (lo : Int) < (n : Int) := by omega
        have dl : decide ((lo : Int) < (n : Int)) = false := decide_eq_false hlni
        have hin : decide ((c1, c2) ∈ L) = false := decide_eq_false fun h => by
          obtain ⟨k, hk⟩ := List.getElem?_of_mem h
          have h1 := (List.getElem?_eq_some_iff.1 hk).1
          have := hn'.out
          exact lex_irr (hA k _ (by omega) hk)
        replace hin := hbb'.out.symm.trans hin
        have hf' := Lib.hid hf
        subst hin
        clear hA hB hf hPd
        go_upto_region 7 with fail
        go_quiet (fail)
        obtain ⟨we, hwe⟩ : ∃ we, we = wd.drewN nq := ⟨_, rfl⟩
        have hfe := Lib.hid (show Far (fun _ => False) W0 we from hwe ▸ (hf'.out).drewN nq)
        rw [← hwe]
        clear hwe
        go_wp2_with fail
        (try rw [Exit.noGoto_ret])
        (try simp only [Exit.inBlock, Exit.then])
        refine bodyPost_ret (v := .tuple #[.int .i64 (lo : Nat), .bool false]) (by simp [results, Tryz.f87, go_sem]) rfl ?_
        exact ⟨⟨lo, rfl⟩, hF0'.out.then hfe.out⟩
end
end Go.Proofs.YtjolkhiggcmoiaaGreatDoor
