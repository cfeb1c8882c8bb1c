/-
  meet: what the program's calls tell when things come.
-/
import Derived.Test.YthpkbeooplpinaaCar
import Derived.Deep.DeepCutAuto
import Derived.Deep.RegionWith
import Derived.RegionTactic
import Derived.IntWalk
namespace Go.Proofs.Ythpkbeooplpinaa
open Go.RowKit
set_option linter.unusedVariables false
set_option linter.unusedSimpArgs false
theorem info_met : (Try.prog.info? 66).map (fun i => (i.zero, i.size, i.bytes)) = some (some (.agg #[.int .i64 0, .int .i64 0, .int .i64 0, .int .i64 0]), 4, 32) := by kernel_rfl
def FitC (x : Cm) : Prop := Fit x.1 ∧ Fit x.2.1 ∧ Fit x.2.2.1
section
set_option maxHeartbeats 4000000
set_option maxRecDepth 100000
theorem meet_any (W : World) (B n m : Nat) (F0 : Nat → Prop) (ao : Option Addr) (cap : Nat) (f : Nat → Cm) (hn : 0 < n) (hn2 : n ≤ 8) (hm : m ≤ 60) (hS : Stk W B n (mk n) F0) (hx : Cms W F0 ao m f) (hfit : ∀ k, k < m → FitC (f k)) :
    Calls Try.prog 23 #[.pointer (some ⟨B, 0, none⟩), .int .i64 n, .slice ao m cap] W fun e w' => ∃ l F out so oc, e = .returned (.tuple #[.slice so out.length oc, .bool true]) ∧ Car W F0 B (n + m) l F out so oc w' ∧ Inv l out ∧ From n l (ths n f m) ∧ out.length ≤ m * 100 := by
  have HX := Lib.hid hx
  have HF := Lib.hid hfit
  have HS := Lib.hid hS
  clear hx hfit hS
  go_enter Try.func23, Try.ntmps23
  go_wp2_with fail
  go_loopw [8, 9] (fun ov iv wr => ∃ (i : Nat) (l : List Nd) (F : Nat → Prop) (out : List Mt) (so : Option Addr) (oc : Nat), ov = .slice so out.length oc ∧ iv = .int .i64 i ∧ i ≤ m ∧ Car W F0 B (n + i) l F out so oc wr ∧ Inv l out ∧ From n l (ths n f i) ∧ out.length ≤ i * 100) (fun _ iv _ => m - (intOf iv).toNat)
  case atStart => exact ⟨0, mk n, F0, [], none, 0, rfl, rfl, Nat.zero_le _, ⟨HS.out, World.ownsRow_nil _ _ _ _, fun k hk => .inl hk, Far.refl _ _⟩, mk_inv n, mk_from n, Nat.zero_le _⟩
  case round =>
    obtain ⟨i, l, F, out, so, oc, rfl, rfl, hi, hC, hI, hFr, hol⟩ := hrel
    by_cases hlt : i < m
    · have d1 : decide ((i : Int) < (m : Int)) = true := by rw [decide_eq_true_eq]; omega
      have hii : (i : Int) < (m : Int) := by omega
      obtain ⟨gc, off, rfl, hgc, hnF, hcs⟩ := HX.out (by omega)
      obtain ⟨x0, x1, x2, x3⟩ := hcs i hlt
      obtain ⟨ft0, ft1, ft2⟩ := HF.out i hlt
      have hth := ths_succ n f i
      have ceq : ∀ j, wr.cell? ⟨gc, j, none⟩ = W.cell? ⟨gc, j, none⟩ := fun j => cell_eq (hC.far.block gc hgc hnF)
      rw [← ceq] at x0 x1 x2 x3
      have hgcr : gc < wr.heap.size := Nat.lt_of_lt_of_le hgc hC.far.size
      have hthx : th n (f i) = if (f i).2.2.2 then .pop (atN n (f i).1) (f i).2.1 else .push (atN n (f i).1) ((atN n (f i).2.1 : Nat), (f i).2.2.1) := rfl
      generalize f i = x at *
      obtain ⟨N, A, Bk', pop⟩ := x
      simp only [] at x0 x1 x2 x3 ft0 ft1 ft2 hthx
      obtain ⟨q, hq, hq64, hqe⟩ := and63 N
      have hqn : ((q : Int) % (n : Int)) = ((q % n : Nat) : Int) := by simp
      have hk : q % n = atN n N := by rw [hqe]; rfl
      have hkn := atN_lt hn N
      have n0 : ((n : Int) == 0) = false := by rw [beq_eq_false_iff_ne]; omega
      have n1 : ¬ ((n : Int) = 0) := by omega
      generalize hkk : atN n N = k at *
      have hlen := hFr.len
      obtain ⟨r, hr⟩ : ∃ r, l[k]? = some r := ⟨l[k], by simp [hlen, hkn]⟩
      have hlong := hC.stk.long hr
      have hth' := Lib.hid hth
      have hC' := Lib.hid hC
      have hI' := Lib.hid hI
      have hFr' := Lib.hid hFr
      have hr' := Lib.hid hr
      have hlen' := Lib.hid hlen
      have hqe' := Lib.hid hqe
      have hkk' := Lib.hid hkk
      clear hth hC hI hFr hr hcs ceq hlen hqe hkk
      have hA1 : ∀ o, Far (fun _ => False) wr (wr.alloc o) := fun o => (Far.refl _ wr).alloc o
      cases pop
      · -- a frame
        simp only [Bool.false_eq_true, if_false] at hthx
        obtain ⟨q2, hq2, hq264, hq2e⟩ := and63 A
        have hqn2 : ((q2 : Int) % (n : Int)) = ((q2 % n : Nat) : Int) := by simp
        have hk2 : q2 % n = atN n A := by rw [hq2e]; rfl
        have hkn2 := atN_lt hn A
        generalize hkk2 : atN n A = k2 at *
        have hthx' := Lib.hid hthx
        have hq2e' := Lib.hid hq2e
        have hkk2' := Lib.hid hkk2
        clear hthx hq2e hkk2
        have hr1a : ((q2 : Int).tmod (n : Int)) = (k2 : Int) := by rw [Int.tmod_eq_emod_of_nonneg (by omega), hqn2, hk2]
        have hr1b : ((q2 : Int) % (n : Int)) = (k2 : Int) := by rw [hqn2, hk2]
        have hr1c : IntKind.i64.wrap (k2 : Int) = (k2 : Int) := IntWalk.i64_in _ (by omega)
        have hr0 : wr.cell? ⟨gc, off + i * 4 + 3, none⟩ = some (.bool false) := x3
        have hB1 : Bk (wr.alloc (.cells #[.int .i64 N, .int .i64 A, .int .i64 Bk', .bool false] 61)) wr.heap.size 61 #[.int .i64 N, .int .i64 A, .int .i64 Bk', .bool false] := Bk.new rfl
        have hF1 := hA1 (.cells #[.int .i64 N, .int .i64 A, .int .i64 Bk', .bool false] 61)
        obtain ⟨w1, hw1⟩ : ∃ w1, w1 = wr.alloc (.cells #[.int .i64 N, .int .i64 A, .int .i64 Bk', .bool false] 61) := ⟨_, rfl⟩
        have hw1' := Lib.hid hw1
        have hC1 := Lib.hid (hC'.out.still hF1)
        rw [← hw1] at hC1 hB1
        have hB1' := Lib.hid hB1
        clear hw1 hF1 hB1 hr0
        go_upto_region 15 with fail
        rw [← hw1'.out]
        have b1 : w1.cell? ⟨wr.heap.size, 1, none⟩ = some (.int .i64 A) := hB1'.out.cell 1
        have b2 : w1.cell? ⟨wr.heap.size, 2, none⟩ = some (.int .i64 Bk') := hB1'.out.cell 2
        have hbl := hB1'.out.lt
        go_cut [16] (fun fv wc => ∃ h, fv = .pointer (some ⟨h, 0, none⟩) ∧ w1.heap.size ≤ h ∧ Bk wc h 38 #[.int .i64 k2, .int .i64 Bk'] ∧ Far (fun _ => False) w1 wc)
        case first =>
          go_region
          all_goals
            go_wp2_with fail
            go_meet
            refine ⟨_, rfl, Nat.le_refl _, ?_, ?_⟩
            · first
                | exact Bk.new rfl
                | exact Bk.new (by simp)
            · first
                | exact ((Far.refl _ w1).alloc _).drew
                | exact (Far.refl _ w1).drew.alloc _
        case rest =>
          obtain ⟨h, rfl, hh1, hBh, hfc⟩ := hcut
          have f0 : wc.cell? ⟨h, 0, none⟩ = some (.int .i64 k2) := hBh.cell 0
          have f1 : wc.cell? ⟨h, 1, none⟩ = some (.int .i64 Bk') := hBh.cell 1
          have hBh' := Lib.hid hBh
          have hCc := Lib.hid (hC1.out.still hfc)
          have hlen2 := hlen'.out
          clear hBh hfc b1 b2 hbl hr1a hr1b hr1c hq2 hqn2 hk2
          by_cases hmem : ((k2 : Int), Bk') ∈ r.fs
          · have PC := push_seen_stk (x := k2) hCc.out.stk (by omega) hr'.out (by omega) ft2 hmem
            go_wp2_with fail
            refine PC.mono ?_
            rintro e w2 ⟨rfl, F2, hS2, hM2⟩
            have hC2 := Lib.hid (hCc.out.moved hS2 hM2)
            have hFn := Lib.hid (hFr'.out.pushOld hr'.out hmem)
            clear hS2 hM2 PC hmem f0 f1
            go_wp2_with fail
            go_loopw [8, 20] (fun ov kv w3 => ov = .slice so out.length oc ∧ kv = .int .i64 0 ∧ w3 = w2) (fun _ _ _ => 0)
            case atStart => exact ⟨rfl, rfl, rfl⟩
            case round =>
              obtain ⟨rfl, rfl, rfl⟩ := hrel
              go_wp2_with fail
              go_roundw
              case rel => exact ⟨i + 1, l, F2, out, so, oc, rfl, by go_num, by omega, hC2.out, hI'.out, by rw [hth'.out, hthx'.out]; exact hFn.out, by omega⟩
              case measure => simp [intOf]; omega
          · have PC := push_new_stk (x := k2) hCc.out.stk (by omega) hr'.out (by omega) ft2 hmem
            have hhF : ¬ F h := fun hF => by have := hC1.out.stk.lt h hF; omega
            go_wp2_with fail
            refine PC.mono ?_
            rintro e w2 ⟨gf, rfl, hgf, hof, F2, hnF2, hS2, hM2⟩
            have hB2 : Bk w2 h 38 #[.int .i64 k2, .int .i64 Bk'] := hBh'.out.far' hM2.far hhF
            have hC2 := Lib.hid (hCc.out.moved hS2 hM2)
            have hFn := Lib.hid (hFr'.out.pushNew hr'.out ((k2 : Int), Bk'))
            have hIn := Lib.hid (hI'.out.push hr'.out hmem)
            have hB2' := Lib.hid hB2
            have hof' := Lib.hid (row_base2 hof (Nat.zero_le _))
            clear hS2 hM2 PC hmem hB2 hof hhF f0 f1
            obtain ⟨fl, hfl⟩ : ∃ fl, fl = r.ps.length := ⟨_, rfl⟩
            rw [← hfl] at hlong hof' ⊢
            have hfl' := Lib.hid hfl
            clear hfl hgf hnF2
            go_wp2_with fail
            go_loopw [8, 20] (fun ov kv w3 => ∃ (j : Nat) (o2 : List Mt) (so2 : Option Addr) (oc2 : Nat), ov = .slice so2 o2.length oc2 ∧ kv = .int .i64 j ∧ j ≤ fl ∧ o2 = out ++ (r.ps.take j).map (fun y => ((k, y, ((k2 : Int), Bk')) : Mt)) ∧ Car W F0 B (n + i + 1) (l.set k ⟨r.mark, r.place, r.fs ++ [((k2 : Int), Bk')], r.ps⟩) F2 o2 so2 oc2 w3 ∧ Bk w3 h 38 #[.int .i64 k2, .int .i64 Bk'] ∧ w3.ownsRow 0 3 1 (.slice (some ⟨gf, 0, none⟩) fl fl) fl (pcells r.ps)) (fun _ kv _ => fl - (intOf kv).toNat)
            case atStart => exact ⟨0, out, so, oc, rfl, rfl, Nat.zero_le _, by simp, hC2.out, hB2'.out, hof'.out⟩
            case round =>
              obtain ⟨j, o2, so2, oc2, rfl, rfl, hj, ho2, hC3, hB3, hO3⟩ := hrel
              by_cases hjl : j < fl
              · have e1 : decide ((j : Int) < (fl : Int)) = true := by rw [decide_eq_true_eq]; omega
                have hji : (j : Int) < (fl : Int) := by omega
                obtain ⟨y, hy⟩ : ∃ y, r.ps[j]? = some y := ⟨r.ps[j]'(by rw [← hfl'.out]; exact hjl), by rw [List.getElem?_eq_getElem]⟩
                have c0 : wr.cell? ⟨gf, j, none⟩ = some (.int .i64 y) := by rw [hO3.cellAt _ (by omega)]; simp [pcells, hy]
                have f0 : wr.cell? ⟨h, 0, none⟩ = some (.int .i64 k2) := hB3.cell 0
                have f1 : wr.cell? ⟨h, 1, none⟩ = some (.int .i64 Bk') := hB3.cell 1
                have ho2l : o2.length ≤ i * 100 + fl := by rw [ho2]; simp; omega
                have hbl := hB3.lt
                have hgl := (hO3.lt gf rfl).2
                have hnx : out ++ (r.ps.take (j + 1)).map (fun y => ((k, y, ((k2 : Int), Bk')) : Mt)) = o2 ++ [(k, y, ((k2 : Int), Bk'))] := by
                  have hj' : j < r.ps.length := by rw [← hfl'.out]; exact hjl
                  have he : r.ps[j] = y := by have := List.getElem?_eq_getElem hj'; rw [hy] at this; exact (Option.some.inj this).symm
                  rw [ho2, List.take_succ_eq_append_getElem hj', he]; simp
                obtain ⟨inf, hinf, hz0, hz1, hz2⟩ := info_parts info_met
                have A1 := Lib.hid (show (wr.alloc (.cells #[.int .i64 (k : Int), .int .i64 y, .int .i64 (k2 : Int), .int .i64 Bk'] 66)).drew.ownsRow W.heap.size 66 4 (.slice so2 o2.length oc2) o2.length (mcells o2) from hC3.row.alloc _)
                have A2 := Lib.hid (World.news_of_block (w := (wr.alloc (.cells #[.int .i64 (k : Int), .int .i64 y, .int .i64 (k2 : Int), .int .i64 Bk'] 66)).drew) (cs := #[.int .i64 (k : Int), .int .i64 y, .int .i64 (k2 : Int), .int .i64 Bk']) (t := 66) (fr := (0, 0)) (heap_alloc_new wr _))
                have A3 : ∀ u ∈ [Value.int .i64 (k : Int), .int .i64 y, .int .i64 (k2 : Int), .int .i64 Bk'], u.oneCell' = true := by simp [Value.oneCell']
                have A4 : o2.length + 1 ≤ maxLen := by unfold maxLen; omega
                have A5 : (o2.length + 1) * 32 ≤ 140737488355328 := by omega
                have A6 : W.heap.size ≤ (wr.alloc (.cells #[.int .i64 (k : Int), .int .i64 y, .int .i64 (k2 : Int), .int .i64 Bk'] 66)).drew.heap.size := by have := hC3.far.size; show _ ≤ (wr.alloc _).heap.size; simp; omega
                have A7 : 0 < 4 := by decide
                have A8 : 0 < 1 := by decide
                have hC3' := Lib.hid hC3
                have hB3' := Lib.hid hB3
                have hO3' := Lib.hid hO3
                have hnx' := Lib.hid hnx
                clear hC3 hB3 hO3 hnx hy ho2
                go_wp2_with fail
                go_region_law (refine step_append_lies _ rfl (.tmp 109) (.tmp 117) 62 rfl W.heap.size 66 inf _ 4 32 Try.underlying62 hinf hz0 hz1 hz2 rfl A7 (.slice so2 o2.length oc2) o2.length _ rfl A1.out ⟨wr.heap.size, 0, none⟩ 1 1 _ rfl rfl A2.out A3 A8 A4 A5 A6 _ rfl ?_; intro fg fcap' w5 ho5 hg5 hat5 hl5; have ho5' := Lib.hid ho5; have hg5' := Lib.hid hg5; clear ho5 hg5 hat5)
                all_goals
                  go_wp2_with fail
                  go_roundw
                  case rel => exact ⟨j + 1, o2 ++ [(k, y, ((k2 : Int), Bk'))], some ⟨fg, 0, none⟩, fcap', by simp, by go_num, by omega, hnx'.out.symm, hC3'.out.app (((Far.refl _ wr).alloc _).drew) hg5'.out ho5'.out, Bk.app (w1 := (wr.alloc (.cells #[.int .i64 (k : Int), .int .i64 y, .int .i64 (k2 : Int), .int .i64 Bk'] 66)).drew) (hB3'.out.alloc _) A1.out (by decide) hg5'.out, row_app (w1 := (wr.alloc (.cells #[.int .i64 (k : Int), .int .i64 y, .int .i64 (k2 : Int), .int .i64 Bk'] 66)).drew) (hO3'.out.alloc _) A1.out (by decide) hg5'.out⟩
                  case measure => simp [intOf]; omega
              · have e1 : decide ((j : Int) < (fl : Int)) = false := by rw [decide_eq_false_iff_not]; omega
                have hjf : j = fl := by omega
                have ho2l : o2.length ≤ i * 100 + fl := by rw [ho2]; simp; omega
                have ho3 : o2 = out ++ r.ps.map (fun y => ((k, y, ((k2 : Int), Bk')) : Mt)) := by rw [ho2, hjf, hfl'.out, List.take_of_length_le (Nat.le_refl _)]
                have ho3' := Lib.hid ho3
                have hC3' := Lib.hid hC3
                clear ho2 ho3 hC3 hB3 hO3
                go_wp2_with fail
                go_roundw
                case rel => exact ⟨i + 1, _, F2, o2, so2, oc2, rfl, by go_num, by omega, hC3'.out, by rw [ho3'.out]; exact hIn.out, by rw [hth'.out, hthx'.out]; exact hFn.out, by omega⟩
                case measure => simp [intOf]; omega
      · -- a pop
        simp only [if_true] at hthx
        have hthx' := Lib.hid hthx
        clear hthx
        go_wp2_with fail
        by_cases hmem : A ∈ r.ps
        · have hF1 := hA1 (.cells #[.int .i64 N, .int .i64 A, .int .i64 Bk', .bool true] 61)
          have PC := pop_seen_stk (hC'.out.stk.still hF1) (by omega) hr'.out ft1 hmem
          refine PC.mono ?_
          rintro e w2 ⟨rfl, F2, hS2, hM2⟩
          have hC2 := Lib.hid ((hC'.out.still hF1).moved hS2 hM2)
          have hFn := Lib.hid (hFr'.out.popOld hr'.out hmem)
          clear hS2 hM2 PC hF1 hmem
          go_wp2_with fail
          go_loopw [8, 15] (fun ov kv w3 => ov = .slice so out.length oc ∧ kv = .int .i64 0 ∧ w3 = w2) (fun _ _ _ => 0)
          case atStart => exact ⟨rfl, rfl, rfl⟩
          case round =>
            obtain ⟨rfl, rfl, rfl⟩ := hrel
            go_wp2_with fail
            go_roundw
            case rel => exact ⟨i + 1, l, F2, out, so, oc, rfl, by go_num, by omega, hC2.out, hI'.out, by rw [hth'.out, hthx'.out]; exact hFn.out, by omega⟩
            case measure => simp [intOf]; omega
        · have hF1 := hA1 (.cells #[.int .i64 N, .int .i64 A, .int .i64 Bk', .bool true] 61)
          have PC := pop_new_stk (hC'.out.stk.still hF1) (by omega) hr'.out ft1 hmem
          have hbF : ¬ F wr.heap.size := fun h => Nat.lt_irrefl _ (hC'.out.stk.lt _ h)
          refine PC.mono ?_
          rintro e w2 ⟨gf, rfl, hgf, hof, F2, hnF2, hS2, hM2⟩
          have hB2 : Bk w2 wr.heap.size 61 #[.int .i64 N, .int .i64 A, .int .i64 Bk', .bool true] := (Bk.new rfl).far' hM2.far hbF
          have hC2 := Lib.hid ((hC'.out.still hF1).moved hS2 hM2)
          have hFn := Lib.hid (hFr'.out.popNew hr'.out A)
          have hIn := Lib.hid (hI'.out.pop hr'.out hmem)
          have hB2' := Lib.hid hB2
          have hof' := Lib.hid (row_base2 hof (Nat.zero_le _))
          clear hS2 hM2 PC hF1 hmem hB2 hof hbF
          generalize wr.heap.size = bx at hB2' ⊢
          obtain ⟨fl, hfl⟩ : ∃ fl, fl = r.fs.length := ⟨_, rfl⟩
          rw [← hfl] at hlong hof' ⊢
          have hfl' := Lib.hid hfl
          clear hfl hgf hnF2
          go_wp2_with fail
          go_loopw [8, 15] (fun ov kv w3 => ∃ (j : Nat) (o2 : List Mt) (so2 : Option Addr) (oc2 : Nat), ov = .slice so2 o2.length oc2 ∧ kv = .int .i64 j ∧ j ≤ fl ∧ o2 = out ++ (r.fs.take j).map (fun y => ((k, A, y) : Mt)) ∧ Car W F0 B (n + i + 1) (l.set k ⟨r.mark, r.place, r.fs, r.ps ++ [A]⟩) F2 o2 so2 oc2 w3 ∧ Bk w3 bx 61 #[.int .i64 N, .int .i64 A, .int .i64 Bk', .bool true] ∧ w3.ownsRow 0 38 2 (.slice (some ⟨gf, 0, none⟩) fl fl) fl (fcells r.fs)) (fun _ kv _ => fl - (intOf kv).toNat)
          case atStart => exact ⟨0, out, so, oc, rfl, rfl, Nat.zero_le _, by simp, hC2.out, hB2'.out, hof'.out⟩
          case round =>
            obtain ⟨j, o2, so2, oc2, rfl, rfl, hj, ho2, hC3, hB3, hO3⟩ := hrel
            by_cases hjl : j < fl
            · have e1 : decide ((j : Int) < (fl : Int)) = true := by rw [decide_eq_true_eq]; omega
              have hji : (j : Int) < (fl : Int) := by omega
              obtain ⟨y, hy⟩ : ∃ y, r.fs[j]? = some y := ⟨r.fs[j]'(by rw [← hfl'.out]; exact hjl), by rw [List.getElem?_eq_getElem]⟩
              have c0 : wr.cell? ⟨gf, j * 2, none⟩ = some (.int .i64 y.1) := by rw [hO3.cellAt _ (by omega)]; exact (fcells_get hy).1
              have c1 : wr.cell? ⟨gf, j * 2 + 1, none⟩ = some (.int .i64 y.2) := by rw [hO3.cellAt _ (by omega)]; exact (fcells_get hy).2
              have b1 : wr.cell? ⟨bx, 1, none⟩ = some (.int .i64 A) := hB3.cell 1
              have ho2l : o2.length ≤ i * 100 + fl := by rw [ho2]; simp; omega
              have hbl := hB3.lt
              have hgl := (hO3.lt gf rfl).2
              have hnx : out ++ (r.fs.take (j + 1)).map (fun y => ((k, A, y) : Mt)) = o2 ++ [(k, A, y)] := by
                have hj' : j < r.fs.length := by rw [← hfl'.out]; exact hjl
                have he : r.fs[j] = y := by have := List.getElem?_eq_getElem hj'; rw [hy] at this; exact (Option.some.inj this).symm
                rw [ho2, List.take_succ_eq_append_getElem hj', he]; simp
              obtain ⟨inf, hinf, hz0, hz1, hz2⟩ := info_parts info_met
              have A1 := Lib.hid (show (wr.alloc (.cells #[.int .i64 (k : Int), .int .i64 A, .int .i64 y.1, .int .i64 y.2] 66)).drew.ownsRow W.heap.size 66 4 (.slice so2 o2.length oc2) o2.length (mcells o2) from hC3.row.alloc _)
              have A2 := Lib.hid (World.news_of_block (w := (wr.alloc (.cells #[.int .i64 (k : Int), .int .i64 A, .int .i64 y.1, .int .i64 y.2] 66)).drew) (cs := #[.int .i64 (k : Int), .int .i64 A, .int .i64 y.1, .int .i64 y.2]) (t := 66) (fr := (0, 0)) (heap_alloc_new wr _))
              have A3 : ∀ u ∈ [Value.int .i64 (k : Int), .int .i64 A, .int .i64 y.1, .int .i64 y.2], u.oneCell' = true := by simp [Value.oneCell']
              have A4 : o2.length + 1 ≤ maxLen := by unfold maxLen; omega
              have A5 : (o2.length + 1) * 32 ≤ 140737488355328 := by omega
              have A6 : W.heap.size ≤ (wr.alloc (.cells #[.int .i64 (k : Int), .int .i64 A, .int .i64 y.1, .int .i64 y.2] 66)).drew.heap.size := by have := hC3.far.size; show _ ≤ (wr.alloc _).heap.size; simp; omega
              have A7 : 0 < 4 := by decide
              have A8 : 0 < 1 := by decide
              have hC3' := Lib.hid hC3
              have hB3' := Lib.hid hB3
              have hO3' := Lib.hid hO3
              have hnx' := Lib.hid hnx
              clear hC3 hB3 hO3 hnx hy ho2
              go_wp2_with fail
              go_region_law (refine step_append_lies _ rfl (.tmp 65) (.tmp 74) 62 rfl W.heap.size 66 inf _ 4 32 Try.underlying62 hinf hz0 hz1 hz2 rfl A7 (.slice so2 o2.length oc2) o2.length _ rfl A1.out ⟨wr.heap.size, 0, none⟩ 1 1 _ rfl rfl A2.out A3 A8 A4 A5 A6 _ rfl ?_; intro fg fcap' w5 ho5 hg5 hat5 hl5; have ho5' := Lib.hid ho5; have hg5' := Lib.hid hg5; clear ho5 hg5 hat5)
              all_goals
                go_wp2_with fail
                go_roundw
                case rel => exact ⟨j + 1, o2 ++ [(k, A, y)], some ⟨fg, 0, none⟩, fcap', by simp, by go_num, by omega, hnx'.out.symm, hC3'.out.app (((Far.refl _ wr).alloc _).drew) hg5'.out ho5'.out, Bk.app (w1 := (wr.alloc (.cells #[.int .i64 (k : Int), .int .i64 A, .int .i64 y.1, .int .i64 y.2] 66)).drew) (hB3'.out.alloc _) A1.out (by decide) hg5'.out, row_app (w1 := (wr.alloc (.cells #[.int .i64 (k : Int), .int .i64 A, .int .i64 y.1, .int .i64 y.2] 66)).drew) (hO3'.out.alloc _) A1.out (by decide) hg5'.out⟩
                case measure => simp [intOf]; omega
            · have e1 : decide ((j : Int) < (fl : Int)) = false := by rw [decide_eq_false_iff_not]; omega
              have hjf : j = fl := by omega
              have ho2l : o2.length ≤ i * 100 + fl := by rw [ho2]; simp; omega
              have ho3 : o2 = out ++ r.fs.map (fun y => ((k, A, y) : Mt)) := by rw [ho2, hjf, hfl'.out, List.take_of_length_le (Nat.le_refl _)]
              have ho3' := Lib.hid ho3
              have hC3' := Lib.hid hC3
              clear ho2 ho3 hC3 hB3 hO3
              go_wp2_with fail
              go_roundw
              case rel => exact ⟨i + 1, _, F2, o2, so2, oc2, rfl, by go_num, by omega, hC3'.out, by rw [ho3'.out]; exact hIn.out, by rw [hth'.out, hthx'.out]; exact hFn.out, by omega⟩
              case measure => simp [intOf]; omega
    · have d1 : decide ((i : Int) < (m : Int)) = false := by rw [decide_eq_false_iff_not]; omega
      have him : i = m := by omega
      subst him
      have hC' := Lib.hid hC
      have hI' := Lib.hid hI
      have hFr' := Lib.hid hFr
      clear hC hI hFr
      go_wp2_with fail
      go_ret2
      exact ⟨l, F, out, so, oc, rfl, hC'.out, hI'.out, hFr'.out, hol⟩
end
end Go.Proofs.Ythpkbeooplpinaa
