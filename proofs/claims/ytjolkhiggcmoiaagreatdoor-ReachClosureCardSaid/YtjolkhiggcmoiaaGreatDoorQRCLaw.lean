/-
  Closure and From against the document's: the law.
-/
import Derived.Test.YtjolkhiggcmoiaaGreatDoorQRDocM
import Derived.Test.YtjolkhiggcmoiaaGreatDoorQRAwakeN
namespace Go.Proofs.YtjolkhiggcmoiaaGreatDoor
open Go.RowKit Go.Shelf
set_option linter.unusedVariables false
set_option linter.unusedSimpArgs false
section
set_option maxHeartbeats 8000000
set_option maxRecDepth 100000
theorem closure_law (W : World) (sa : Int) (ao : Option Addr) (n cap : Nat) (R C : Nat → Int) (hn : n ≤ cap) (hn2 : n ≤ 9223372036854775807) (hC : Cls W ao n R C) (i : Int) (hT : Tab W) :
    Calls Tryz.prog 3 #[.agg #[.int .i64 sa, .slice ao n cap], .int .i64 i] W fun e w' => e = .returned (.bool true) ∧ Far (fun _ => False) W w' := by
  obtain ⟨h2, hh2⟩ : ∃ h, h = W.heap.size := ⟨_, rfl⟩
  obtain ⟨W0, hW0⟩ : ∃ V, V = W.alloc (.cells #[.int .i64 sa, .slice ao n cap] 24) := ⟨_, rfl⟩
  have hF0 : Far (fun _ => False) W W0 := hW0 ▸ (Far.refl _ W).alloc _
  have hB2 : Bk W0 h2 24 #[.int .i64 sa, .slice ao n cap] := hW0 ▸ Bk.new hh2
  have z20 : W0.cell? ⟨h2, 0, none⟩ = some (.int .i64 sa) := hB2.cell 0
  have z21 : W0.cell? ⟨h2, 1, none⟩ = some (.slice ao n cap) := hB2.cell 1
  have MD := made05_any sa ao n cap R C hn hn2 W0 (hC.move hF0)
  have AW := awake05_any W0 (hT.still hF0)
  have hT' := Lib.hid hT
  have hF0' := Lib.hid hF0
  have hh2' := Lib.hid hh2
  have hW0' := Lib.hid hW0
  clear hC hT hF0 hB2 hh2 hW0
  by_cases h300 : 300 < n
  · have d3 : (300 : Int) < (n : Int) := by omega
    clear MD h300
    go_enter Tryz.func3, Tryz.ntmps3
    go_upto_region 1 with fail
    rw [← hh2'.out, ← hW0'.out]
    go_wp2_with fail
    refine AW.mono ?_
    rintro e w1 ⟨rfl, hf1⟩
    have hf1' := Lib.hid hf1
    clear AW hf1
    go_wp2_with fail
    go_ret
    exact ⟨rfl, hF0'.out.then hf1'.out⟩
  · have d3 : ¬ (300 : Int) < (n : Int) := by omega
    clear AW h300
    go_enter Tryz.func3, Tryz.ntmps3
    go_upto_region 1 with fail
    rw [← hh2'.out, ← hW0'.out]
    go_wp2_with fail
    refine MD.mono ?_
    rintro e w1 ⟨v, d, rfl, F, hM, hD, hDn, hlo, hf1⟩
    obtain ⟨s, hs⟩ : ∃ s, ofS sa n R C = s := ⟨_, rfl⟩
    obtain ⟨M, hMM⟩ : ∃ M, ofM sa n R C = M := ⟨_, rfl⟩
    rw [hs, hMM] at hM hD
    obtain ⟨C0, hC0⟩ := exists_clo M
    obtain ⟨k1, hk1⟩ : ∃ k, (cellsL M s).length = k := ⟨_, rfl⟩
    obtain ⟨aod, capd, rfl, hDr⟩ := id hD
    rw [hk1] at hD ⊢
    obtain ⟨h6, hh6⟩ : ∃ h, h = w1.heap.size := ⟨_, rfl⟩
    obtain ⟨W2, hW2⟩ : ∃ V, V = w1.alloc (.cells #[.int .i64 (s : Nat), .slice aod k1 capd] 27) := ⟨_, rfl⟩
    have hf2 : Far (fun _ => False) w1 W2 := hW2 ▸ (Far.refl _ w1).alloc _
    have hB6 : Bk W2 h6 27 #[.int .i64 (s : Nat), .slice aod k1 capd] := hW2 ▸ Bk.new hh6
    have HB := Lib.hid (show ∀ V, Far (fun _ => False) W2 V → V.cell? ⟨h6, 0, none⟩ = some (.int .i64 (s : Nat)) ∧ V.cell? ⟨h6, 1, none⟩ = some (.slice aod k1 capd) from fun V hf => ⟨(hB6.far' hf id).cell 0, (hB6.far' hf id).cell 1⟩)
    have hM2 := hM.still hf2
    have hD2 := hD.move hf2
    have hT2 := ((hT'.out.still hF0'.out).still hf1).still hf2
    have FR := hM2.gfrom_any hT2 hC0 i
    have hfw := Lib.hid (hF0'.out.then (hf1.then hf2))
    have hM' := Lib.hid hM2
    have hD' := Lib.hid hD2
    have hT2' := Lib.hid hT2
    have hC0' := Lib.hid hC0
    have hW2' := Lib.hid hW2
    have hh6' := Lib.hid hh6
    clear MD hM hD hDn hlo hf1 hDr hs hMM hk1 hf2 hB6 hM2 hD2 hT2 hC0 hW2 hh6 z20 z21
    go_upto_region 4 with fail
    rw [← hh6'.out, ← hW2'.out]
    obtain ⟨E, hE⟩ : ∃ E, wrE s i 0 = E := ⟨_, rfl⟩
    obtain ⟨L, hL⟩ : ∃ L, fromE C0 s i = L := ⟨_, rfl⟩
    obtain ⟨N, hN⟩ : ∃ N, L.length = N := ⟨_, rfl⟩
    have hNb : N ≤ 1024 := by rw [← hN, ← hL]; obtain ⟨_, _, _, _, _, h, _⟩ := hD'.out; exact Nat.le_trans (fromE_le _ _ _) h
    rw [hE, hL, hN] at FR
    go_wp2_with fail
    refine FR.mono ?_
    rintro e w3 ⟨v1, rfl, ho1, hf3⟩
    obtain ⟨b60, b61⟩ := HB.out w3 hf3
    obtain ⟨o1, c1, rfl⟩ := q_form ho1
    have RF := rfrom_any (hD'.out.move hf3) hC0'.out i
    rw [hE, hL, hN] at RF
    have ho1' := Lib.hid ho1
    have hf3' := Lib.hid hf3
    have hE' := Lib.hid hE
    have hN' := Lib.hid hN
    have hL' := Lib.hid hL
    have ne1 : ((E : Int) != (E : Int)) = false := by simp
    clear FR ho1 hf3 hE hN hL
    go_wp2_with fail
    refine RF.mono ?_
    rintro e w4 ⟨v2, rfl, ho2, hf4⟩
    obtain ⟨o2, c2, rfl⟩ := q_form ho2
    have ho2' := Lib.hid ho2
    have ho1' := Lib.hid (row_same (w' := w4) ho1'.out fun k _ hl => hf4.block k hl id)
    have hf4' := Lib.hid (hf3'.out.then hf4)
    clear RF ho2 hf4 b60 b61 hf3'
    go_wp2_with fail
    go_loopw [11] (fun kv wr => ∃ k : Nat, k ≤ N ∧ kv = .int .i64 (k : Nat) ∧ Far (fun _ => False) w4 wr) (fun kv _ => N - (intOf kv).toNat)
    case atStart => exact ⟨0, Nat.zero_le _, rfl, Far.refl _ _⟩
    case round =>
      obtain ⟨k, hk, rfl, hf⟩ := hrel
      obtain ⟨wd, hwd⟩ : ∃ wd, wd = wr := ⟨_, rfl⟩
      rw [← hwd] at hf ⊢
      clear hwd
      by_cases hlt : k < N
      · have hki : (k : Int) < (N : Int) := by omega
        have hkb : (k : Int) + 1 ≤ 9223372036854775807 := by omega
        obtain ⟨x, hx⟩ : ∃ x, L[k]? = some x := ⟨_, List.getElem?_eq_getElem (by rw [hN'.out]; exact hlt)⟩
        obtain ⟨g1, rfl, _, hg1, _, q1⟩ := own_numsD (row_same (w' := wd) ho1'.out fun k _ hl => hf.block k hl id) hx
        obtain ⟨g2, rfl, _, hg2, _, q2⟩ := own_numsD (row_same (w' := wd) ho2'.out fun k _ hl => hf.block k hl id) hx
        have ne2 : ((x : Int) != (x : Int)) = false := by simp
        have hf' := Lib.hid hf
        clear hx hf
        go_upto_region 11 with fail
        go_quiet (fail)
        obtain ⟨we, hwe⟩ : ∃ we, we = wd.drewN nq := ⟨_, rfl⟩
        have hfe := Lib.hid (hf'.out.then (hwe ▸ (Far.refl (fun _ => False) wd).drewN nq : Far (fun _ => False) wd we))
        rw [← hwe]
        clear hwe
        go_wp2_with fail
        exact ⟨⟨k + 1, by omega, by go_num, hfe.out⟩, by simp only [intOf]; omega⟩
      · obtain rfl : N = k := by omega
        have hki : ¬ (N : Int) < (N : Int) := by omega
        have h2d := hf4'.out.then hf
        have CL := (hM'.out.still h2d).gclosure_any (hT2'.out.still h2d) hC0'.out
        obtain ⟨K, hK⟩ : ∃ K : Nat, (if s = 0 then 1 else 0) = K := ⟨_, rfl⟩
        rw [hK] at CL
        have h2d' := Lib.hid h2d
        have hK' := Lib.hid hK
        clear hf h2d hK ho1' ho2'
        go_wp2_with fail
        refine CL.mono ?_
        rintro e w5 ⟨v3, rfl, ⟨F3, hM3⟩, hf5⟩
        have h25 := h2d'.out.then hf5
        obtain ⟨b60, b61⟩ := HB.out w5 h25
        have RC := rclosureD_any (hD'.out.move h25) hC0'.out
        rw [hK'.out] at RC
        have hM3' := Lib.hid hM3
        have h25' := Lib.hid h25
        clear CL hM3 hf5 h25 h2d'
        go_wp2_with fail
        refine RC.mono ?_
        rintro e w6 ⟨v4, rfl, hD4, hf6⟩
        obtain ⟨k4, hk4⟩ : ∃ k, (cellsL C0 s).length = k := ⟨_, rfl⟩
        obtain ⟨ao4, cap4, rfl, hr4⟩ := id hD4
        rw [hk4] at hD4 ⊢
        obtain ⟨h13, hh13⟩ : ∃ h, h = w6.heap.size := ⟨_, rfl⟩
        obtain ⟨W7, hW7⟩ : ∃ V, V = w6.alloc (.cells #[.int .i64 (s : Nat), .slice ao4 k4 cap4] 27) := ⟨_, rfl⟩
        have hf67 : Far (fun _ => False) w6 W7 := hW7 ▸ (Far.refl _ w6).alloc _
        have hB13 : Bk W7 h13 27 #[.int .i64 (s : Nat), .slice ao4 k4 cap4] := hW7 ▸ Bk.new hh13
        have c130 : W7.cell? ⟨h13, 0, none⟩ = some (.int .i64 (s : Nat)) := hB13.cell 0
        have c131 : W7.cell? ⟨h13, 1, none⟩ = some (.slice ao4 k4 cap4) := hB13.cell 1
        have h57 := hf6.then hf67
        have h27 := h25'.out.then h57
        have ht7 := hT2'.out.still h27
        have SA := same05_any (hM3'.out.still h57) (hD4.move hf67) ht7
        have h27' := Lib.hid h27
        have hh13' := Lib.hid hh13
        have hW7' := Lib.hid hW7
        have eK : ((K : Int) == (K : Int)) = true := by simp
        clear RC hD4 hr4 hk4 hh13 hW7 hf67 hB13 h57 h27 ht7 hf6 b60 b61 h25' hM3'
        go_upto_region 15 with fail
        rw [← hh13'.out, ← hW7'.out]
        go_wp2_with fail
        refine SA.mono ?_
        rintro e w8 ⟨rfl, hf8⟩
        have h28 := h27'.out.then hf8
        obtain ⟨b60, b61⟩ := HB.out w8 h28
        have SB := same05_any (hM'.out.still h28) (hD'.out.move h28) (hT2'.out.still h28)
        have h28' := Lib.hid h28
        clear SA hf8 h28 c130 c131
        go_wp2_with fail
        refine SB.mono ?_
        rintro e w9 ⟨rfl, hf9⟩
        have h29 := h28'.out.then hf9
        have AW := awake05_any w9 (hT2'.out.still h29)
        have h29' := Lib.hid h29
        clear SB hf9 h29
        go_wp2_with fail
        refine AW.mono ?_
        rintro e w10 ⟨rfl, hf10⟩
        have hend := Lib.hid (hfw.out.then (h29'.out.then hf10))
        clear AW hf10
        go_wp2_with fail
        go_ret
        exact ⟨rfl, hend.out⟩
end
end Go.Proofs.YtjolkhiggcmoiaaGreatDoor
