/-
  ProductSteps walked.
-/
import Derived.Test.YtoaeeojnelmlnaaDoorQPPower
import Derived.Test.YtoaeeojnelmlnaaDoorQPAwake
namespace Go.Proofs.YtoaeeojnelmlnaaDoor
open Go.RowKit Go.Shelf
set_option linter.unusedVariables false
set_option linter.unusedSimpArgs false
section
variable {M : Nat → Nat → Bool} {side : Nat}
theorem cols_walk (hs : side ≤ 1024) (hw : ∀ r c, M r c = true → r < side ∧ c < side) {start : Nat} (hst : start < side) (n : Nat) : colsM (powM M side n) side start = setL (walkS M side start n) side := by
  unfold colsM setL
  exact List.filter_congr fun c _ => powM_walk hs hw hst n c
theorem walk_led (hw : ∀ r c, M r c = true → r < side ∧ c < side) {start p x : Nat} (hx : x ∈ setL (walkS M side start (p + 1)) side) : ((setL (walkS M side start p) side).any fun q => M q x) = true := (mem_setL.1 hx).2
theorem walk_none {start : Nat} (hst : start < side) : setL (walkS M side start 0) side = [start] := by
  refine up_nat (setL_rise _ _) (List.pairwise_singleton _ _) fun x => ?_
  rw [mem_setL]
  show x < side ∧ decide (x = start) = true ↔ _
  simp
  omega
theorem any_take (l : List Nat) (f : Nat → Bool) {k p : Nat} (h : l[k]? = some p) : (l.take (k + 1)).any f = ((l.take k).any f || f p) := by
  rw [List.take_add_one, h, List.any_append]
  simp
theorem at_some {l : List Nat} {k : Nat} (h : k < l.length) : ∃ x, l[k]? = some x := ⟨l[k], List.getElem?_eq_getElem h⟩
end
section
set_option maxHeartbeats 16000000
set_option maxRecDepth 100000
theorem psteps_law (W : World) (x : Int) (ao : Option Addr) (n cap : Nat) (R C : Nat → Int) (hn : n ≤ 9223372036854775807) (hC : Cls W ao n R C) (u v f0 : Int) (hT : Tab W) :
    Calls Tryd.prog 13 #[.int .i64 x, .slice ao n cap, .int .i64 u, .int .i64 v, .int .i64 f0] W fun e w' => e = .returned (.bool true) ∧ Far (fun _ => False) W w' := by
  obtain ⟨s, hs⟩ : ∃ s, (x % 256).toNat + 1 = s := ⟨_, rfl⟩
  have hs1 : 1 ≤ s := by omega
  have hs2 : s ≤ 1024 := by omega
  have SZ := side03_any x W
  rw [hs] at SZ
  have FA : ∀ w, Far (fun _ => False) W w → _ := fun w hf => fold03_any s hs1 hs2 ao n cap R C hn w (hC.move hf)
  obtain ⟨A, hA⟩ : ∃ M, foldR s R C n = M := ⟨_, rfl⟩
  rw [hA] at FA
  obtain ⟨U, hU⟩ : ∃ U : Nat, (U : Int) = u % 32 := ⟨(u % 32).toNat, by omega⟩
  obtain ⟨V, hV⟩ : ∃ V : Nat, (V : Int) = v % 32 := ⟨(v % 32).toNat, by omega⟩
  have e1 := i64_and31 u
  have e2 := i64_and31 v
  rw [← hU] at e1
  rw [← hV] at e2
  have hU31 : U ≤ 31 := by omega
  have hV31 : V ≤ 31 := by omega
  have e3 := i64_and1023 f0
  have e4 := red_tmod s f0 hs2
  obtain ⟨st, hst⟩ : ∃ st, red s f0 = st := ⟨_, rfl⟩
  have hsl : st < s := hst ▸ red_lt _ hs1
  rw [hst] at e4
  have hs0 : ((s : Int) == 0) = false := by simp; omega
  have hs00 : ¬ ((s : Int) = 0) := by omega
  obtain ⟨N, hN⟩ : ∃ N, U + V = N := ⟨_, rfl⟩
  have hUV : (U : Int) + (V : Int) = (N : Int) := by omega
  have hN62 : N ≤ 62 := by omega
  have hN' := Lib.hid hN
  have FA' := Lib.hid FA
  have hf0 := Lib.hid (Far.refl (fun _ => False) W)
  clear hA hs hC FA hU hV hst hN
  go_enter Tryd.func13, Tryd.ntmps13
  go_wp2_with fail
  refine SZ.mono ?_
  rintro e w' ⟨rfl, rfl⟩
  clear SZ
  have K_1 := FA'.out W hf0.out
  go_wp2_with fail
  refine K_1.mono ?_
  rintro e w_1 ⟨Ba, rfl, Fa, hX_1, hlo_1, hf_1⟩
  have ha_1 := Lib.hid (show Mx w_1 Ba Fa s (A) from hX_1)
  have upa := Lib.hid (hX_1.lt)
  have loa := Lib.hid hlo_1
  have sz_1 := Lib.hid (hf_1.size)
  have hfw_2 := Lib.hid (hf0.out.then hf_1)
  clear hf0
  clear K_1 hX_1 hlo_1 hf_1
  clear FA'
  have wa := Lib.hid ha_1.out.within
  have hf5 : Far (fun _ => False) w_1 w_1.drew := (Far.refl _ _).drew
  go_wp2_with fail
  go_region
  have ha_3 := Lib.hid (ha_1.out.still hf5)
  clear ha_1
  have hfw_4 := Lib.hid (hfw_2.out.then hf5)
  clear hfw_2
  clear hf5
  obtain ⟨w5, hw5⟩ : ∃ V, V = w_1.drew := ⟨_, rfl⟩
  rw [← hw5] at ha_3 hfw_4
  have K_5 := power_yes ha_3.out (hT.still hfw_4.out) U (by omega)
  go_wp2_with fail
  rw [← hw5]
  clear hw5
  refine K_5.mono ?_
  rintro e w_5 ⟨Bp, rfl, Fp, hX_5, hlo_5, hf_5⟩
  have hp_5 := Lib.hid (show Mx w_5 Bp Fp s (powM A s U) from hX_5)
  have upp := Lib.hid (hX_5.lt)
  have lop := Lib.hid hlo_5
  have sz_5 := Lib.hid (hf_5.size)
  have ha_6 := Lib.hid (ha_3.out.still hf_5)
  clear ha_3
  have hfw_7 := Lib.hid (hfw_4.out.then hf_5)
  clear hfw_4
  clear K_5 hX_5 hlo_5 hf_5
  have K_8 := power_yes ha_6.out (hT.still hfw_7.out) V (by omega)
  go_wp2_with fail
  refine K_8.mono ?_
  rintro e w_8 ⟨Bq, rfl, Fq, hX_8, hlo_8, hf_8⟩
  have hq_8 := Lib.hid (show Mx w_8 Bq Fq s (powM A s V) from hX_8)
  have upq := Lib.hid (hX_8.lt)
  have loq := Lib.hid hlo_8
  have sz_8 := Lib.hid (hf_8.size)
  have ha_9 := Lib.hid (ha_6.out.still hf_8)
  clear ha_6
  have hp_10 := Lib.hid (hp_5.out.still hf_8)
  clear hp_5
  have hfw_11 := Lib.hid (hfw_7.out.then hf_8)
  clear hfw_7
  clear K_8 hX_8 hlo_8 hf_8
  have K_12 := power_yes ha_9.out (hT.still hfw_11.out) N (by omega)
  go_wp2_with fail
  refine K_12.mono ?_
  rintro e w_12 ⟨Br, rfl, Fr, hX_12, hlo_12, hf_12⟩
  have hr_12 := Lib.hid (show Mx w_12 Br Fr s (powM A s N) from hX_12)
  have upr := Lib.hid (hX_12.lt)
  have lor := Lib.hid hlo_12
  have sz_12 := Lib.hid (hf_12.size)
  have ha_13 := Lib.hid (ha_9.out.still hf_12)
  clear ha_9
  have hp_14 := Lib.hid (hp_10.out.still hf_12)
  clear hp_10
  have hq_15 := Lib.hid (hq_8.out.still hf_12)
  clear hq_8
  have hfw_16 := Lib.hid (hfw_11.out.then hf_12)
  clear hfw_11
  clear K_12 hX_12 hlo_12 hf_12
  have K_17 := pMul_yes hp_14.out hq_15.out (hT.still hfw_16.out)
  go_wp2_with fail
  refine K_17.mono ?_
  rintro e w_17 ⟨Bt, rfl, Ft, hX_17, hlo_17, hf_17⟩
  have ht_17 := Lib.hid (show Mx w_17 Bt Ft s (mulM (powM A s U) (powM A s V)) from hX_17)
  have upt := Lib.hid (hX_17.lt)
  have lot := Lib.hid hlo_17
  have sz_17 := Lib.hid (hf_17.size)
  have ha_18 := Lib.hid (ha_13.out.still hf_17)
  clear ha_13
  have hp_19 := Lib.hid (hp_14.out.still hf_17)
  clear hp_14
  have hq_20 := Lib.hid (hq_15.out.still hf_17)
  clear hq_15
  have hr_21 := Lib.hid (hr_12.out.still hf_17)
  clear hr_12
  have hfw_22 := Lib.hid (hfw_16.out.then hf_17)
  clear hfw_16
  clear K_17 hX_17 hlo_17 hf_17
  clear hp_19
  clear hq_20
  obtain ⟨L, hL⟩ : ∃ L, setL (walkS A s st N) s = L := ⟨_, rfl⟩
  obtain ⟨ln, hln⟩ : ∃ m, L.length = m := ⟨_, rfl⟩
  have hlnb : ln ≤ 1024 := by rw [← hln, ← hL]; exact Nat.le_trans (setL_le _ _) hs2
  have K_23 := qrow_any hr_21.out (hT.still hfw_22.out) st hsl
  rw [cols_walk hs2 wa.out hsl, hL, hln] at K_23
  go_wp2_with fail
  refine K_23.mono ?_
  rintro e w_23 ⟨v_23, rfl, hown_23, hf_23⟩
  obtain ⟨orow, crow, rfl⟩ := q_form hown_23
  have rrow_23 := Lib.hid hown_23
  have ha_24 := Lib.hid (ha_18.out.still hf_23)
  clear ha_18
  have hr_25 := Lib.hid (hr_21.out.still hf_23)
  clear hr_21
  have ht_26 := Lib.hid (ht_17.out.still hf_23)
  clear ht_17
  have hfw_27 := Lib.hid (hfw_22.out.then hf_23)
  clear hfw_22
  clear K_23 hown_23 hf_23
  have K_28 := walk_yes ha_24.out (hT.still hfw_27.out) st N hsl (by omega)
  rw [hL, hln] at K_28
  go_wp2_with fail
  refine K_28.mono ?_
  rintro e w_28 ⟨v_28, rfl, hown_28, hf_28⟩
  obtain ⟨owalk, cwalk, rfl⟩ := q_form hown_28
  have rwalk_28 := Lib.hid hown_28
  have rrow_29 := Lib.hid (row_same rrow_23.out fun k hk hl => hf_28.block k hl id)
  clear rrow_23
  have ha_30 := Lib.hid (ha_24.out.still hf_28)
  clear ha_24
  have hr_31 := Lib.hid (hr_25.out.still hf_28)
  clear hr_25
  have ht_32 := Lib.hid (ht_26.out.still hf_28)
  clear ht_26
  have hfw_33 := Lib.hid (hfw_27.out.then hf_28)
  clear hfw_27
  clear K_28 hown_28 hf_28
  have hL' := Lib.hid hL
  have hln' := Lib.hid hln
  clear hL hln
  have K_34 := qsame_any ht_32.out hr_31.out
  go_wp2_with fail
  refine K_34.mono ?_
  rintro e w_34 ⟨v_34, rfl, hv_34, hf_34⟩
  have hvt_34 : v_34 = true := hv_34.2 (by refine ⟨by trivial, ?_⟩; exact (fun r c => by rw [powM_add hs2 wa.out U V, hN'.out]))
  subst hvt_34
  have sz_34 := Lib.hid (hf_34.size)
  have rrow_35 := Lib.hid (row_same rrow_29.out fun k hk hl => hf_34.block k hl id)
  clear rrow_29
  have rwalk_36 := Lib.hid (row_same rwalk_28.out fun k hk hl => hf_34.block k hl id)
  clear rwalk_28
  have ha_37 := Lib.hid (ha_30.out.still hf_34)
  clear ha_30
  have hr_38 := Lib.hid (hr_31.out.still hf_34)
  clear hr_31
  have ht_39 := Lib.hid (ht_32.out.still hf_34)
  clear ht_32
  have hfw_40 := Lib.hid (hfw_33.out.then hf_34)
  clear hfw_33
  clear K_34 hv_34 hf_34
  clear ht_39
  clear hr_38
  go_wp2_with fail
  go_loopw [22] (fun iv wr => ∃ i : Nat, i ≤ ln ∧ iv = .int .i64 (i : Nat) ∧ Far (fun _ => False) w_34 wr) (fun iv _ => ln - (intOf iv).toNat)
  case atStart => exact ⟨0, Nat.zero_le _, rfl, Far.refl _ _⟩
  case round =>
    obtain ⟨i, hi, rfl, hfo⟩ := hrel
    have hfo' := Lib.hid hfo
    have hwalkr := row_same rwalk_36.out fun k hk hl => hfo.block k hl id
    by_cases hlt : i < ln
    · have hii : (i : Int) < (ln : Int) := by omega
      have hrowr := row_same rrow_35.out fun k hk hl => hfo.block k hl id
      obtain ⟨x1, hx1⟩ := at_some (l := L) (k := i) (by rw [hln'.out]; exact hlt)
      obtain ⟨g1, cc1, hs1v, _⟩ := hrowr.form (by omega)
      cases hs1v
      obtain ⟨g2, cc2, hs2v, _⟩ := hwalkr.form (by omega)
      cases hs2v
      have c1 : wr.cell? ⟨g1, i, none⟩ = some (.int .i64 (x1 : Nat)) := by have := hrowr.cellAt i (by omega); rw [this]; exact ncells_at hx1
      have c2 : wr.cell? ⟨g2, i, none⟩ = some (.int .i64 (x1 : Nat)) := by have := hwalkr.cellAt i (by omega); rw [this]; exact ncells_at hx1
      clear hfo hrowr hwalkr hx1
      go_wp2_with fail
      go_region
      go_wp2_with fail
      go_roundw
      case rel => exact ⟨i + 1, by omega, by go_num, hfo'.out.drew⟩
      case measure => simp [intOf]; omega
    · have e : i = ln := by omega
      subst e
      have hA2 := Lib.hid (ha_37.out.still hfo)
      have hwalk2 := Lib.hid hwalkr
      have hfw2 := Lib.hid (hfw_40.out.then hfo)
      clear hfo hwalkr
      by_cases hN0 : N = 0
      · have hL1 : L = [st] := by rw [← hL'.out, hN0]; exact walk_none hsl
        have hl1 : i = 1 := by rw [← hln'.out, hL1]; rfl
        have hUV0 : (U : Int) + (V : Int) = 0 := by omega
        have hown := hwalk2.out
        obtain ⟨g2, cc2, hs2v, _⟩ := hown.form (by omega)
        cases hs2v
        have c0 : wr.cell? ⟨g2, 0, none⟩ = some (.int .i64 (st : Nat)) := by have := hown.cellAt 0 (by omega); rw [this, hL1]; rfl
        have AW := awake03_any wr (hT.still hfw2.out)
        clear hown hUV hL1
        have hi1 : (i : Int) = 1 := by omega
        clear hl1 hN0
        go_wp2_with fail
        refine AW.mono ?_
        rintro e wz ⟨rfl, hfz⟩
        have hfz' := Lib.hid (hfw2.out.then hfz)
        clear AW hfz
        go_wp2_with fail
        go_ret
        exact ⟨rfl, hfz'.out⟩
      · obtain ⟨P, hP⟩ : ∃ P, P + 1 = N := ⟨N - 1, by omega⟩
        have hPi : (N : Int) - 1 = (P : Int) := by omega
        have hNi : ¬ (N : Int) = 0 := by omega
        have hP62 : P ≤ 62 := by omega
        have WK := walk_yes hA2.out (hT.still hfw2.out) st P hsl (by omega)
        obtain ⟨Lb, hLb⟩ : ∃ L, setL (walkS A s st P) s = L := ⟨_, rfl⟩
        obtain ⟨lb, hlb⟩ : ∃ m, Lb.length = m := ⟨_, rfl⟩
        have hlbb : lb ≤ 1024 := by rw [← hlb, ← hLb]; exact Nat.le_trans (setL_le _ _) hs2
        rw [hLb, hlb] at WK
        have hled : ∀ x, x ∈ L → (Lb.any fun q => A q x) = true := fun x hx => by
          rw [← hLb]
          exact walk_led wa.out (by rw [hP, hL'.out]; exact hx)
        have hinL : ∀ x, x ∈ L → x < s := fun x hx => by rw [← hL'.out] at hx; exact (mem_setL.1 hx).1
        have hinB : ∀ x, x ∈ Lb → x < s := fun x hx => by rw [← hLb] at hx; exact (mem_setL.1 hx).1
        have hled' := Lib.hid hled
        have hinL' := Lib.hid hinL
        have hinB' := Lib.hid hinB
        have hlb' := Lib.hid hlb
        clear hLb hlb hled hinL hinB hP hN0
        go_wp2_with fail
        refine WK.mono ?_
        rintro e wb ⟨vb, rfl, hownb, hfb⟩
        obtain ⟨ob, cb, rfl⟩ := q_form hownb
        have hA3 := Lib.hid (hA2.out.still hfb)
        have hwalk3 := Lib.hid (row_same hwalk2.out fun k hk hl => hfb.block k hl id)
        have hbef3 := Lib.hid hownb
        have hfw3 := Lib.hid (hfw2.out.then hfb)
        clear WK hownb hfb hA2 hwalk2 hfw2 hfo'
        go_wp2_with fail
        go_loopw [24] (fun iv wr => ∃ j : Nat, j ≤ i ∧ iv = .int .i64 (j : Nat) ∧ Far (fun _ => False) wb wr) (fun iv _ => i - (intOf iv).toNat)
        case atStart => exact ⟨0, Nat.zero_le _, rfl, Far.refl _ _⟩
        case round =>
          obtain ⟨j, hj, rfl, hfo⟩ := hrel
          by_cases hjl : j < i
          · have hjj : (j : Int) < (i : Int) := by omega
            obtain ⟨x1, hx1⟩ := at_some (l := L) (k := j) (by rw [hln'.out]; exact hjl)
            have hx1m := List.mem_of_getElem? hx1
            have hx1s := hinL'.out x1 hx1m
            have hx1' := Lib.hid hx1
            have hxl := Lib.hid (hled'.out x1 hx1m)
            have hfo' := Lib.hid hfo
            obtain ⟨wo, hwo⟩ : ∃ wo, wo = wr := ⟨_, rfl⟩
            rw [← hwo] at hfo' ⊢
            clear hwo hx1 hx1m hfo
            go_wp2_with fail
            go_loopw [25, 26] (fun lv kv wr => ∃ k : Nat, k ≤ lb ∧ lv = .bool ((Lb.take k).any fun q => A q x1) ∧ kv = .int .i64 (k : Nat) ∧ Far (fun _ => False) wo wr) (fun _ kv _ => lb - (intOf kv).toNat)
            case atStart => exact ⟨0, Nat.zero_le _, rfl, rfl, Far.refl _ _⟩
            case round =>
              obtain ⟨k, hk, rfl, rfl, hf2⟩ := hrel
              by_cases hkl : k < lb
              · have hkk : (k : Int) < (lb : Int) := by omega
                obtain ⟨p, hp⟩ := at_some (l := Lb) (k := k) (by rw [hlb'.out]; exact hkl)
                have hps := hinB'.out p (List.mem_of_getElem? hp)
                have hstep := any_take Lb (fun q => A q x1) hp
                have hfr := hfo'.out.then hf2
                have hwalkr := row_same hwalk3.out fun k hk hl => hfr.block k hl id
                have hbefr := row_same hbef3.out fun k hk hl => hfr.block k hl id
                obtain ⟨g2, cc2, hs2v, _⟩ := hwalkr.form (by omega)
                cases hs2v
                obtain ⟨g1, cc1, hs1v, _⟩ := hbefr.form (by omega)
                cases hs1v
                obtain ⟨wi, hwi⟩ : ∃ wi, wi = wr := ⟨_, rfl⟩
                rw [← hwi] at hfr hf2 hwalkr hbefr ⊢
                have c1 : wi.cell? ⟨g1, k, none⟩ = some (.int .i64 (p : Nat)) := by have := hbefr.cellAt k (by omega); rw [this]; exact ncells_at hp
                have c2 : wi.cell? ⟨g2, j, none⟩ = some (.int .i64 (x1 : Nat)) := by have := hwalkr.cellAt j (by omega); rw [this]; exact ncells_at hx1'.out
                have G := Lib.hid ((hA3.out.still (hfr.drew)).get p x1 hps hx1s)
                obtain ⟨b, hb⟩ : ∃ b, ((Lb.take k).any fun q => A q x1) = b := ⟨_, rfl⟩
                obtain ⟨c, hc⟩ : ∃ c, A p x1 = c := ⟨_, rfl⟩
                rw [hb] at hstep ⊢
                rw [hc] at hstep G
                have hstep' := Lib.hid hstep
                have hf2' := Lib.hid hf2
                clear hwi hb hc hstep hp hfr hwalkr hbefr hf2
                cases b <;> cases c <;> (
                  go_upto_region 33 with fail
                  go_region_with ((with_reducible refine G.out.mono ?_); rintro e w6 ⟨rfl, hf6⟩; have hf6' := Lib.hid (hf2'.out.drew.then hf6); clear hf6)
                  all_goals (
                    go_wp2_with fail
                    go_roundw
                    case rel => exact ⟨k + 1, by omega, by rw [hstep'.out]; rfl, by go_num, hf6'.out⟩
                    case measure => simp [intOf]; omega))
              · have e : k = lb := by omega
                subst e
                have htk : ((Lb.take k).any fun q => A q x1) = true := by
                  rw [List.take_of_length_le (by rw [hlb'.out]; exact Nat.le_refl _)]
                  exact hxl.out
                rw [htk]
                have hf2' := Lib.hid (hfo'.out.then hf2)
                clear hf2 htk
                go_wp2_with fail
                go_roundw
                case rel => exact ⟨j + 1, by omega, by go_num, hf2'.out⟩
                case measure => simp [intOf]; omega
          · have e : j = i := by omega
            subst e
            have hfw4 := Lib.hid (hfw3.out.then hfo)
            have AW := awake03_any wr (hT.still hfw4.out)
            clear hfo
            go_wp2_with fail
            refine AW.mono ?_
            rintro e wz ⟨rfl, hfz⟩
            have hfz' := Lib.hid (hfw4.out.then hfz)
            clear AW hfz
            go_wp2_with fail
            go_ret
            exact ⟨rfl, hfz'.out⟩
end
end Go.Proofs.YtoaeeojnelmlnaaDoor
