/-
  GssMeets walked.
-/
import Derived.Test.YthpkbeooplpinaaMeet
import Derived.Test.YthpkbeooplpinaaMeetPre
import Derived.Deep.DeepCutAuto
import Derived.Deep.RegionWith
import Derived.RegionTactic
import Derived.IntWalk
namespace Go.Proofs.Ythpkbeooplpinaa
open Go.RowKit
set_option linter.unusedVariables false
set_option linter.unusedSimpArgs false
section
set_option maxHeartbeats 8000000
set_option maxRecDepth 100000
theorem meets_law (W : World) (x : Int) (ao : Option Addr) (n0 cap0 : Nat) (f : Nat → Cm) (hnc : n0 ≤ cap0) (hf : ∀ k, k < n0 → FitC (f k)) (hP : Cms W (fun _ => False) ao n0 f) (hcm : cap0 ≤ maxLen) :
    Calls Try.prog 5 #[.int .i64 x, .slice ao n0 cap0] W fun e w' => e = .returned (.bool true) ∧ Below W.heap.size W w' := by
  unfold maxLen at hcm
  have hf' := Lib.hid hf
  have hP' := Lib.hid hP
  clear hf hP
  have hx7 := i64_and7 x
  obtain ⟨n, hn, hn1, hn2⟩ : ∃ n : Nat, x % 8 + 1 = (n : Int) ∧ 0 < n ∧ n ≤ 8 := ⟨(x % 8 + 1).toNat, by omega, by omega, by omega⟩
  have hlo : 0 ≤ x % 8 := by omega
  have hhi : x % 8 ≤ 7 := by omega
  go_enter Try.func5, Try.ntmps5
  go_upto_if 29 with fail
  go_cut [1] (fun v wc => ∃ (m cap : Nat) (am : Option Addr), v = .slice am m cap ∧ m ≤ 60 ∧ Cms W (fun _ => False) am m f ∧ (∀ k, k < m → FitC (f k)) ∧ wc = W)
  case first =>
    by_cases hbig : 60 < n0
    · obtain ⟨g, off, rfl, hg, hF, hx⟩ := hP'.out (by omega)
      have d1 : decide ((60 : Int) < (n0 : Int)) = true := by rw [decide_eq_true_eq]; omega
      have hc60 : 60 ≤ cap0 := by omega
      have hc60' : (60 : Int) ≤ (cap0 : Int) := by omega
      have hx' := Lib.hid hx
      clear hx
      go_wp2_with fail
      go_meet
      exact ⟨60, cap0, some ⟨g, off, none⟩, rfl, Nat.le_refl _, fun _ => ⟨g, off, rfl, hg, hF, fun k hk => hx'.out k (by omega)⟩, fun k hk => hf'.out k (by omega), rfl⟩
    · have d1 : decide ((60 : Int) < (n0 : Int)) = false := by rw [decide_eq_false_iff_not]; omega
      go_wp2_with fail
      go_meet
      exact ⟨n0, cap0, ao, rfl, by omega, hP'.out, hf'.out, rfl⟩
  case rest =>
    obtain ⟨m, cap, am, rfl, hm, hX, hfit, hwW⟩ := hcut
    have hwW' := hwW.symm
    clear hwW
    subst hwW'
    have hX' := Lib.hid hX
    have hfit' := Lib.hid hfit
    clear hX hfit hf' hP'
    have MS := made_any n (by omega) W
    go_wp2_with fail
    refine MS.mono ?_
    rintro e w1 ⟨Bs, Fs, rfl, hSs, hFs, hw1⟩
    have MT := made_any n (by omega) w1
    have hSs' := Lib.hid hSs
    have hFs' := Lib.hid hFs
    have hw1' := Lib.hid hw1
    clear hSs hFs hw1 MS
    go_wp2_with fail
    refine MT.mono ?_
    rintro e w2 ⟨Bt, Ft, rfl, hSt, hFt, hw2⟩
    have hSs2 := Lib.hid (hSs'.out.still hw2)
    have hW2 := Lib.hid (hw1'.out.trans hw2 fun _ _ h => h)
    have hap := Lib.hid (show ∀ k, Fs k → ¬ Ft k from fun k h1 h2 => by have := hSs'.out.lt k h1; have := hFt k h2; omega)
    have hFt2 := Lib.hid (show ∀ k, Ft k → W.heap.size ≤ k from fun k h => Nat.le_trans hw1'.out.size (hFt k h))
    have hSt' := Lib.hid hSt
    have LN := len_stk hSs2.out
    rw [mk_length] at LN
    have EQP := eq_ptr
    clear hSt hFt hw2 MT hSs' hw1'
    go_wp2_with ((with_reducible refine LN.mono ?_); rintro e w' ⟨rfl, rfl⟩)
    clear LN EQP
    go_loopw [8, 9] (fun bv iv wr => ∃ (j : Nat) (so : Option Addr) (oc : Nat), bv = .slice so j oc ∧ iv = .int .i64 ((m : Int) - 1 - j) ∧ j ≤ m ∧ wr.ownsRow W.heap.size 61 4 (.slice so j oc) j (ccells (rv m f j)) ∧ Stk wr Bs n (mk n) Fs ∧ Stk wr Bt n (mk n) Ft ∧ Far (fun _ => False) W wr) (fun _ iv _ => (intOf iv + 1).toNat)
    case atStart => exact ⟨0, none, 0, rfl, by simp, Nat.zero_le _, World.ownsRow_nil _ _ _ _, hSs2.out, hSt'.out, hW2.out⟩
    case round =>
      clear hSs2 hSt' hW2
      obtain ⟨j, so, oc, rfl, rfl, hj, hO, hSs, hSt, hW⟩ := hrel
      by_cases hlt : j < m
      · obtain ⟨i, hi⟩ : ∃ i : Nat, (m : Int) - 1 - j = (i : Int) := ⟨m - 1 - j, by omega⟩
        have hiN : i = m - 1 - j := by omega
        have him : i < m := by omega
        rw [hi]
        have d1 : decide ((0 : Int) ≤ (i : Int)) = true := by rw [decide_eq_true_eq]; omega
        obtain ⟨g, off, rfl, hg, _, hcs⟩ := hX'.out (by omega)
        obtain ⟨x0, x1, x2, x3⟩ := hcs i him
        rw [← hW.cell hg] at x0 x1 x2 x3
        have hgr : g < wr.heap.size := Nat.lt_of_lt_of_le hg hW.size
        have hii : (i : Int) < (m : Int) := by omega
        have hrs := rv_succ m f j
        rw [← hiN] at hrs
        generalize hfi : f i = y at *
        obtain ⟨y0, y1, y2, y3⟩ := y
        simp only [] at x0 x1 x2 x3
        obtain ⟨inf, hinf, hz0, hz1, hz2⟩ := info_parts info_come
        have A1 := Lib.hid (hO.alloc (.cells #[.int .i64 y0, .int .i64 y1, .int .i64 y2, .bool y3] 61))
        have A2 := Lib.hid (World.news_of_block (w := wr.alloc (.cells #[.int .i64 y0, .int .i64 y1, .int .i64 y2, .bool y3] 61)) (cs := #[.int .i64 y0, .int .i64 y1, .int .i64 y2, .bool y3]) (t := 61) (fr := (0, 0)) (heap_alloc_new wr _))
        have A3 : ∀ u ∈ [Value.int .i64 y0, .int .i64 y1, .int .i64 y2, .bool y3], u.oneCell' = true := by simp [Value.oneCell']
        have A4 : j + 1 ≤ maxLen := by unfold maxLen; omega
        have A5 : (j + 1) * 32 ≤ 140737488355328 := by omega
        have A6 : W.heap.size ≤ (wr.alloc (.cells #[.int .i64 y0, .int .i64 y1, .int .i64 y2, .bool y3] 61)).heap.size := by have := hW.size; simp; omega
        have hO' := Lib.hid hO
        have hSs' := Lib.hid hSs
        have hSt' := Lib.hid hSt
        have hW' := Lib.hid hW
        have hrs' := Lib.hid hrs
        have hi' := Lib.hid hi
        clear hO hSs hSt hW hcs hrs hfi hi hiN
        go_wp2_with (at_builtin; refine wpList_append_lies _ rfl _ _ 58 rfl W.heap.size 61 inf _ 4 32 Try.underlying58 hinf hz0 hz1 hz2 rfl (by decide) (.slice so j oc) j _ rfl A1.out ⟨wr.heap.size, 0, none⟩ 1 1 _ rfl rfl A2.out A3 (by decide) A4 A5 A6 _ rfl ?_; intro fg fcap w4 ho4 hg4 hat4 hl4; have ho4' := Lib.hid ho4; have hg4' := Lib.hid hg4; clear ho4 hg4 hat4)
        have hR4 : Far (fun k => (Value.slice so j oc).ownBlock = some k) wr w4 := ((Far.refl _ wr).alloc _).grown hg4'.out fun k _ e => e
        have hS4 := Lib.hid (hSs'.out.kept hR4 fun k hk e => hSs'.out.apart hO'.out (by decide) (by decide) (by decide) (by decide) k hk e)
        have hT4 := Lib.hid (hSt'.out.kept hR4 fun k hk e => hSt'.out.apart hO'.out (by decide) (by decide) (by decide) (by decide) k hk e)
        have hW4 := Lib.hid (hW'.out.trans hR4 fun k hk e => by have := (hO'.out.lt k e).1; omega)
        clear hR4
        go_roundw
        case rel => exact ⟨j + 1, some ⟨fg, 0, none⟩, fcap, rfl, by have := hi'.out; rw [show (m : Int) - 1 - ((j + 1 : Nat) : Int) = (i : Int) - 1 by omega], by omega, by rw [hrs'.out, ccells_app]; exact ho4'.out, hS4.out, hT4.out, hW4.out⟩
        case measure => simp [intOf]
      · have hjm : j = m := by omega
        subst hjm
        have d1 : decide ((0 : Int) ≤ (j : Int) - 1 - (j : Int)) = false := by rw [decide_eq_false_iff_not]; omega
        have MA := meet_any wr Bs n j Fs am cap f hn1 hn2 hm hSs (hX'.out.move hW hFs'.out) hfit'.out
        have hO' := Lib.hid hO
        have hSs' := Lib.hid hSs
        have hSt' := Lib.hid hSt
        have hW' := Lib.hid hW
        clear hO hSs hSt hW
        go_wp2_with fail
        refine MA.mono ?_
        rintro e w4 ⟨l1, F1, out1, so1, oc1, rfl, hC1, hI1, hFr1, hol1⟩
        have hSt4 := Lib.hid (hSt'.out.kept hC1.far fun k hk h => hap.out k h hk)
        have hO4 := Lib.hid (row_same hO'.out fun k hk hlt => hC1.far.block k hlt fun hF => hSs'.out.apart hO'.out (by decide) (by decide) (by decide) (by decide) k hF hk)
        have MB := meet_any w4 Bt n j Ft so oc (fun q => f (j - 1 - q)) hn1 hn2 hm hSt4.out (Cms.row hO4.out fun k hk => hSt4.out.apart hO4.out (by decide) (by decide) (by decide) (by decide) k hk) (fun k hk => hfit'.out _ (by omega))
        have hC1' := Lib.hid hC1
        have hI1' := Lib.hid hI1
        have hFr1' := Lib.hid hFr1
        clear hC1 hI1 hFr1 MA
        go_wp2_with fail
        refine MB.mono ?_
        rintro e w5 ⟨l2, F2, out2, so2, oc2, rfl, hC2, hI2, hFr2, hol2⟩
        have TW := Lib.hid (Two.mk' (n + j) hFr1'.out hFr2 (ths_rv n j f) hI1'.out hI2)
        have S1 := Lib.hid (hC1'.out.stk.kept hC2.far fun k hk h => (hC1'.out.foot k hk).elim (fun h' => hap.out k h' h) fun h' => by have := hSt'.out.lt k h; omega)
        have S2 := Lib.hid hC2.stk
        have R1 := Lib.hid (row_same hC1'.out.row fun k hk hlt => hC2.far.block k hlt fun hF => hSt4.out.apart hC1'.out.row (by decide) (by decide) (by decide) (by decide) k hF hk)
        have R2 := Lib.hid hC2.row
        have WF := Lib.hid (((hW'.out.trans hC1'.out.far fun k hk h => by have := hFs'.out k h; omega).trans hC2.far fun k hk h => by have := hFt2.out k h; omega : Far (fun _ => False) W w5))
        have hlen12 := TW.out.len
        have hl1n := TW.out.l1
        have hl2n := TW.out.l2
        rw [← hlen12]
        have hlen12' := Lib.hid hlen12
        have hl1n' := Lib.hid hl1n
        have hl2n' := Lib.hid hl2n
        clear hC2 hI2 hFr2 MB hlen12 hl1n hl2n
        clear hO' hSs' hSt' hW' hSt4 hO4 hC1' hI1' hFr1'
        go_wp2_with fail
        go_loopw [14, 15] (fun cv kv wr => ∃ k : Nat, cv = .int .i64 (total (l1.take k) : Nat) ∧ kv = .int .i64 k ∧ k ≤ n ∧ Far (fun _ => False) w5 wr) (fun _ kv _ => n - (intOf kv).toNat)
        case atStart => exact ⟨0, by simp [total], rfl, Nat.zero_le _, Far.refl _ _⟩
        case round =>
          obtain ⟨k, rfl, rfl, hk, hfw⟩ := hrel
          have htl : total (l1.take k) ≤ 6000 := by have h1 := total_le l1 k; have h2 := TW.out.tot; omega
          by_cases hkn : k < n
          · have d2 : decide ((k : Int) < (n : Int)) = true := by rw [decide_eq_true_eq]; omega
            obtain ⟨r1, hr1⟩ : ∃ r, l1[k]? = some r := ⟨l1[k]'(by rw [hl1n'.out]; exact hkn), by rw [List.getElem?_eq_getElem]⟩
            obtain ⟨r2, hr2⟩ : ∃ r, l2[k]? = some r := ⟨l2[k]'(by rw [hl2n'.out]; exact hkn), by rw [List.getElem?_eq_getElem]⟩
            obtain ⟨hs1, hs2⟩ := TW.out.same k r1 r2 hr1 hr2
            have hs1' := Lib.hid hs1
            have hs2' := Lib.hid hs2
            clear hs1 hs2
            have hone := Lib.hid (TW.out.one k r1 hr1)
            have htk := Lib.hid (total_take hr1)
            obtain ⟨hb1, hb2⟩ := S1.out.long hr1
            have FC1 := frames_ok_stk (S1.out.still hfw) (by omega) hr1
            go_wp2_with fail
            refine FC1.mono ?_
            rintro e w6 ⟨gf, rfl, _, hof, hf6⟩
            have hf6' := hfw.trans hf6 fun _ _ h => h
            have PC1 := pops_ok_stk (S1.out.still hf6') (by omega) hr1
            have hof6 := Lib.hid (row_base2 hof (Nat.zero_le _))
            clear FC1 hof hf6
            go_wp2_with fail
            refine PC1.mono ?_
            rintro e w7 ⟨gp, rfl, _, hop, hf7⟩
            have hof7 := Lib.hid (row_same hof6.out fun k _ hk => hf7.block k hk id)
            have hop7 := Lib.hid (row_base2 hop (Nat.zero_le _))
            have hf7' := hf6'.trans hf7 fun _ _ h => h
            have FC2 := frames_ok_stk (S2.out.still hf7') (by omega) hr2
            rw [← hs1'.out] at FC2
            clear PC1 hop hf7 hof6 hf6'
            go_wp2_with fail
            refine FC2.mono ?_
            rintro e w8 ⟨gf2, rfl, _, _, hf8⟩
            have hof8 := Lib.hid (row_same hof7.out fun k _ hk => hf8.block k hk id)
            have hop8 := Lib.hid (row_same hop7.out fun k _ hk => hf8.block k hk id)
            have hf8' := hf7'.trans hf8 fun _ _ h => h
            have PC2 := pops_ok_stk (S2.out.still hf8') (by omega) hr2
            rw [← hs2'.out] at PC2
            clear FC2 hf8 hof7 hop7 hf7'
            go_wp2_with fail
            refine PC2.mono ?_
            rintro e w9 ⟨gp2, rfl, _, _, hf9⟩
            have hof9 := Lib.hid (row_same hof8.out fun k _ hk => hf9.block k hk id)
            have hop9 := Lib.hid (row_same hop8.out fun k _ hk => hf9.block k hk id)
            have hf9' := Lib.hid (hf8'.trans hf9 fun _ _ h => h)
            clear PC2 hf9 hof8 hop8 hf8' hfw hr1 hr2
            obtain ⟨fl, hfl⟩ : ∃ fl, fl = r1.fs.length := ⟨_, rfl⟩
            obtain ⟨pl, hpl⟩ : ∃ pl, pl = r1.ps.length := ⟨_, rfl⟩
            rw [← hfl] at hb1 hof9 htk ⊢
            rw [← hpl] at hb2 hop9 htk ⊢
            generalize total (l1.take k) = c0 at htk htl ⊢
            have hfl' := Lib.hid hfl
            have hpl' := Lib.hid hpl
            clear hfl hpl
            go_wp2_with fail
            go_loopw [14, 24] (fun cv iv wr => ∃ i c : Nat, cv = .int .i64 c ∧ iv = .int .i64 i ∧ i ≤ fl ∧ c = c0 + i * pl ∧ c ≤ 6000 + i * 68 ∧ Far (fun _ => False) w9 wr) (fun _ iv _ => fl - (intOf iv).toNat)
            case atStart => exact ⟨0, c0, rfl, rfl, Nat.zero_le _, by simp, by omega, Far.refl _ _⟩
            case round =>
              obtain ⟨i, c1, rfl, rfl, hi, hc1, hcb1, hfi⟩ := hrel
              by_cases hil : i < fl
              · have d3 : decide ((i : Int) < (fl : Int)) = true := by rw [decide_eq_true_eq]; omega
                obtain ⟨y, hy⟩ : ∃ y, r1.fs[i]? = some y := ⟨r1.fs[i]'(by rw [← hfl'.out]; exact hil), by rw [List.getElem?_eq_getElem]⟩
                have hc1n := Lib.hid (show c1 + pl = c0 + (i + 1) * pl by rw [hc1, Nat.succ_mul]; omega)
                have hfi' := Lib.hid hfi
                have hy' := Lib.hid hy
                obtain ⟨wi, hwi⟩ : ∃ wi, wi = wr := ⟨_, rfl⟩
                rw [← hwi] at hfi' ⊢
                clear hfi hc1 hy hwi
                go_wp2_with fail
                go_loopw [14, 25] (fun cv jv wr => ∃ j c : Nat, cv = .int .i64 c ∧ jv = .int .i64 j ∧ j ≤ pl ∧ c = c1 + j ∧ Far (fun _ => False) w9 wr) (fun _ jv _ => pl - (intOf jv).toNat)
                case atStart => exact ⟨0, c1, rfl, rfl, Nat.zero_le _, rfl, hfi'.out⟩
                case round =>
                  obtain ⟨j2, c2, rfl, rfl, hj2, hc2, hfj⟩ := hrel
                  by_cases hjl : j2 < pl
                  · have d4 : decide ((j2 : Int) < (pl : Int)) = true := by rw [decide_eq_true_eq]; omega
                    obtain ⟨p, hp⟩ : ∃ p, r1.ps[j2]? = some p := ⟨r1.ps[j2]'(by rw [← hpl'.out]; exact hjl), by rw [List.getElem?_eq_getElem]⟩
                    obtain ⟨h1a, h1b⟩ := hone.out y p (List.mem_of_getElem? hy'.out) (List.mem_of_getElem? hp)
                    have hofj := row_same hof9.out fun k _ hk => hfj.block k hk id
                    have hopj := row_same hop9.out fun k _ hk => hfj.block k hk id
                    have v0 : wr.cell? ⟨gf, i * 2, none⟩ = some (.int .i64 y.1) := by rw [hofj.cellAt _ (by omega)]; exact (fcells_get hy'.out).1
                    have v1 : wr.cell? ⟨gf, i * 2 + 1, none⟩ = some (.int .i64 y.2) := by rw [hofj.cellAt _ (by omega)]; exact (fcells_get hy'.out).2
                    have v2 : wr.cell? ⟨gp, j2, none⟩ = some (.int .i64 p) := by rw [hopj.cellAt _ (by omega)]; simp [pcells, hp]
                    have hil' : (i : Int) < (fl : Int) := by omega
                    have hjl' : (j2 : Int) < (pl : Int) := by omega
                    have hgf := (hofj.lt gf rfl).2
                    have hgp := (hopj.lt gp rfl).2
                    have hc2' := Lib.hid hc2
                    have hfj' := Lib.hid hfj
                    have h1a' := Lib.hid h1a
                    have h1b' := Lib.hid h1b
                    have hc2b : c2 ≤ 20000 := by omega
                    obtain ⟨wj, hwj⟩ : ∃ wj, wj = wr := ⟨_, rfl⟩
                    rw [← hwj] at hfj' v0 v1 v2 hgf hgp ⊢
                    clear hofj hopj hc2 hfj h1a h1b hp hwj
                    go_upto_region 32 with fail
                    go_cut [26] (fun mv wc => ∃ h, mv = .pointer (some ⟨h, 0, none⟩) ∧ Bk wc h 66 #[.int .i64 k, .int .i64 p, .int .i64 y.1, .int .i64 y.2] ∧ Far (fun _ => False) wj wc)
                    case first =>
                      go_region
                      all_goals
                        go_wp2_with fail
                        go_meet
                        refine ⟨_, rfl, ?_, ?_⟩
                        · first
                            | exact Bk.new rfl
                            | exact Bk.new (by simp)
                        · first
                            | exact ((Far.refl _ wj).alloc _).drew
                            | exact (Far.refl _ wj).drew.alloc _
                    case rest =>
                      obtain ⟨h, rfl, hBh, hfc⟩ := hcut
                      have q0 : wc.cell? ⟨h, 0, none⟩ = some (.int .i64 k) := hBh.cell 0
                      have q1 : wc.cell? ⟨h, 1, none⟩ = some (.int .i64 p) := hBh.cell 1
                      have q2 : wc.cell? ⟨h, 2, none⟩ = some (.int .i64 y.1) := hBh.cell 2
                      have q3 : wc.cell? ⟨h, 3, none⟩ = some (.int .i64 y.2) := hBh.cell 3
                      have hfa := (hf9'.out.trans hfj'.out fun _ _ h => h).trans hfc fun _ _ h => h
                      have HA1 := has_any out1 (k, p, y) _ so1 oc1 wc (by omega) (row_same R1.out fun k _ hk => hfa.block k hk id)
                      rw [h1a'.out] at HA1
                      have hfa' := Lib.hid hfa
                      have hfc' := Lib.hid hfc
                      have hBh' := Lib.hid hBh
                      have ho2l : out2.length < 1000000 := by rw [← hlen12'.out]; omega
                      clear hfa hfc hBh v0 v1 v2
                      go_wp2_with fail
                      refine HA1.mono ?_
                      rintro e w10 ⟨rfl, hf10⟩
                      have hB10 := hBh'.out.far' hf10 id
                      have q0 : w10.cell? ⟨h, 0, none⟩ = some (.int .i64 k) := hB10.cell 0
                      have q1 : w10.cell? ⟨h, 1, none⟩ = some (.int .i64 p) := hB10.cell 1
                      have q2 : w10.cell? ⟨h, 2, none⟩ = some (.int .i64 y.1) := hB10.cell 2
                      have q3 : w10.cell? ⟨h, 3, none⟩ = some (.int .i64 y.2) := hB10.cell 3
                      have hf10a := hfa'.out.trans hf10 fun _ _ h => h
                      have HA2 := has_any out2 (k, p, y) _ so2 oc2 w10 ho2l (row_same R2.out fun k _ hk => hf10a.block k hk id)
                      rw [h1b'.out, ← hlen12'.out] at HA2
                      have hf10' := Lib.hid hf10
                      clear HA1 hB10 hf10a hf10
                      go_wp2_with fail
                      refine HA2.mono ?_
                      rintro e w11 ⟨rfl, hf11⟩
                      have hf11' := Lib.hid hf11
                      clear HA2 hf11 q0 q1 q2 q3
                      go_wp2_with fail
                      go_roundw
                      case rel => exact ⟨j2 + 1, c2 + 1, by go_num, by go_num, by omega, by rw [hc2'.out]; omega, (((hfj'.out.trans hfc'.out fun _ _ h => h).trans hf10'.out fun _ _ h => h).trans hf11'.out fun _ _ h => h)⟩
                      case measure => simp [intOf]; omega
                  · have d4 : decide ((j2 : Int) < (pl : Int)) = false := by rw [decide_eq_false_iff_not]; omega
                    have hc3 := Lib.hid (show c2 = c0 + (i + 1) * pl by rw [← hc1n.out, hc2]; omega)
                    have hcb3 : c2 ≤ 6000 + (i + 1) * 68 := by omega
                    have hfj' := Lib.hid hfj
                    clear hc2 hfj
                    go_wp2_with fail
                    go_roundw
                    case rel => exact ⟨i + 1, c2, rfl, by go_num, by omega, hc3.out, hcb3, hfj'.out⟩
                    case measure => simp [intOf]; omega
              · have d3 : decide ((i : Int) < (fl : Int)) = false := by rw [decide_eq_false_iff_not]; omega
                have hif : i = fl := by omega
                have hc1' := Lib.hid (show c1 = total (l1.take (k + 1)) by rw [htk.out, hc1, hif])
                have hfi' := Lib.hid hfi
                clear hc1 hfi hif
                go_wp2_with fail
                go_roundw
                case rel => exact ⟨k + 1, by rw [hc1'.out], by go_num, by omega, hf9'.out.trans hfi'.out fun _ _ h => h⟩
                case measure => simp [intOf]; omega
          · have d2 : decide ((k : Int) < (n : Int)) = false := by rw [decide_eq_false_iff_not]; omega
            have hke : k = n := by omega
            have htt : total (l1.take k) = out1.length := by rw [hke, List.take_of_length_le (by rw [hl1n'.out]; exact Nat.le_refl _)]; exact TW.out.tot.symm
            rw [htt]
            have AW := awake_any wr
            have hfw' := Lib.hid hfw
            clear hfw htt hke htl
            go_wp2_with ((with_reducible refine AW.mono ?_); rintro e w' ⟨rfl, hfa⟩)
            go_ret
            exact ⟨rfl, ((WF.out.trans hfw'.out fun _ _ h => h).trans hfa fun _ _ h => h).below (Nat.le_refl _) fun _ _ h => h⟩
end
end Go.Proofs.Ythpkbeooplpinaa
