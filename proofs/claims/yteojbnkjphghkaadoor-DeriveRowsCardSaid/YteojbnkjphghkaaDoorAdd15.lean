/-
  The chart: has, add.
-/
import Derived.Test.YteojbnkjphghkaaDoorCh15
import Derived.Test.YteojbnkjphghkaaDoorStep
import Derived.Deep.RegionLaw
import Derived.Deep.AppendLies
import Derived.Deep.RegionHeld3
namespace Go.Proofs.YteojbnkjphghkaaDoor
open Go.RowKit
set_option linter.unusedVariables false
set_option linter.unusedSimpArgs false
theorem far_set_new {a w : World} {p : Addr} {v : Value} (h : Far (fun _ => False) a w) (hp : a.heap.size ≤ p.block) : Far (fun _ => False) a (w.setCell p v) := by
  have h2 := (Far.refl (fun k => k = p.block) w).set p v (fun _ => rfl)
  exact h.trans h2 fun i hi e => by subst e; omega
theorem bk_drew {w : World} {g : Nat} {t : TypeId} {cs : Array Value} (h : Bk w g t cs) : Bk w.drew g t cs := h
theorem info_piece : (Tryd.prog.info? 59).map (fun i => (i.zero.map (·.cells.size), i.size, i.bytes)) = some (some 3, 3, 24) := by kernel_rfl
theorem fit_nat {n : Nat} (h : n ≤ 64) : Fit (n : Int) := by unfold Fit; omega
theorem fit_nt {a : Int} {S : Nat} (h : 0 ≤ a ∧ a < S) (hS : S ≤ 1024) : Fit a := by unfold Fit; omega
section
set_option maxHeartbeats 8000000
set_option maxRecDepth 100000
theorem chas_any (kB eB gB B S n : Nat) (pv wv lv fv rv : Value) (E G : Ends) (K : List Pc) (a : Int) (i j : Nat) (w : World) (hC : Ch w kB eB gB B S n pv wv lv fv rv E G K) (ha : Fit a) (hi : i ≤ 64) (hj : j ≤ 64) :
    Calls Tryd.prog 30 #[.pointer (some ⟨kB, 0, none⟩), .agg #[.int .i64 a, .int .i64 (i : Int), .int .i64 (j : Int)]] w fun e w' => (∃ b : Bool, e = .returned (.bool b) ∧ (b = true ↔ (a, i, j) ∈ K)) ∧ Far (fun _ => False) w w' := by
  obtain ⟨h, hh⟩ : ∃ h, h = w.heap.size := ⟨_, rfl⟩
  obtain ⟨W, hW⟩ : ∃ W, W = w.alloc (.cells #[.int .i64 a, .int .i64 (i : Int), .int .i64 (j : Int)] 59) := ⟨_, rfl⟩
  have hF : Far (fun _ => False) w W := hW ▸ afar _ _
  have hX : Bk W h 59 #[.int .i64 a, .int .i64 (i : Int), .int .i64 (j : Int)] := hW ▸ Bk.new hh
  have hCW := hC.move hF
  have x0 : W.cell? ⟨h, 0, none⟩ = some (.int .i64 a) := hX.cell 0
  have x1 : W.cell? ⟨h, 1, none⟩ = some (.int .i64 (i : Int)) := hX.cell 1
  have x2 : W.cell? ⟨h, 2, none⟩ = some (.int .i64 (j : Int)) := hX.cell 2
  have k2 : W.cell? ⟨kB, 3, none⟩ = some (.map (some eB)) := hCW.box.cell 3
  have hl := (show PM W.drew eB K.length E from hCW.e).look ha (fit_nat hi)
  have HA := Lib.hid (phas_any (E a i) j (hC.ki.eW a i) (by omega) W.drew)
  have hm := Lib.hid (hC.ki.eK a i j (by omega))
  simp only [sideV, plV] at hl
  have HK := Lib.hid (fun w' (hf : Far (fun _ => False) W w') => (show w'.cell? ⟨h, 0, none⟩ = some (.int .i64 a) ∧ w'.cell? ⟨h, 1, none⟩ = some (.int .i64 (i : Int)) ∧ w'.cell? ⟨h, 2, none⟩ = some (.int .i64 (j : Int)) ∧ w'.cell? ⟨kB, 3, none⟩ = some (.map (some eB)) ∧ (Instr.lookup 80 (.map (some eB)) (.agg #[.int .i64 a, .int .i64 (i : Int)]) false).run Tryd.prog w' = .ok (.agg #[.int .u64 ((E a i).1 : Int), .int .u64 ((E a i).2 : Int)]) w' from ⟨(hX.far' hf id).cell 0, (hX.far' hf id).cell 1, (hX.far' hf id).cell 2, (hCW.box.far' hf id).cell 3, (hCW.e.far hf id).look ha (fit_nat hi)⟩))
  have HA2 : Hid (Calls Tryd.prog 48 #[.agg #[.int .u64 ((E a i).1 : Int), .int .u64 ((E a i).2 : Int)], .int .i64 (j : Int)] W.drew fun e w' => ∃ u, e = .returned u ∧ u = .bool (memP (E a i) j) ∧ Far (fun _ => False) W.drew w') := Lib.hid (HA.out.mono fun e w' ⟨he, hf⟩ => ⟨_, he, rfl, hf⟩)
  have hF' := Lib.hid hF
  have hh' := Lib.hid hh
  have hW' := Lib.hid hW
  clear hC hCW hF hh hW HA hX
  go_enter Tryd.func30, Tryd.ntmps30
  go_upto_region 1 with fail
  rw [← hh'.out, ← hW'.out]
  go_region_held3 (fun w' => w'.cell? ⟨h, 0, none⟩ = some (.int .i64 a) ∧ w'.cell? ⟨h, 1, none⟩ = some (.int .i64 (i : Int)) ∧ w'.cell? ⟨h, 2, none⟩ = some (.int .i64 (j : Int)) ∧ w'.cell? ⟨kB, 3, none⟩ = some (.map (some eB)) ∧ (Instr.lookup 80 (.map (some eB)) (.agg #[.int .i64 a, .int .i64 (i : Int)]) false).run Tryd.prog w' = .ok (.agg #[.int .u64 ((E a i).1 : Int), .int .u64 ((E a i).2 : Int)]) w') (first | exact HK.out _ hf4'.out | exact HK.out _ (drew_far W) | go_keep)
    (first
      | (go_at_call 48; refine HA2.out.mono ?_; rintro e w4 ⟨u4, rfl, rfl, hf4⟩; have hf4' := Lib.hid ((drew_far W).then hf4); clear hf4))
  all_goals
    go_wp2_with fail
    go_ret
    exact ⟨⟨_, rfl, hm.out⟩, hF'.out.then hf4'.out⟩
theorem cadd_any (kB eB gB B S n : Nat) (pv wv lv fv rv : Value) (E G : Ends) (K : List Pc) (a : Int) (i j : Nat) (w : World) (hC : Ch w kB eB gB B S n pv wv lv fv rv E G K) (hp : PcIn S n (a, i, j)) (hS : S ≤ 1024) (hn : n ≤ 64) :
    Calls Tryd.prog 67 #[.pointer (some ⟨kB, 0, none⟩), .agg #[.int .i64 a, .int .i64 (i : Int), .int .i64 (j : Int)]] w fun e w' => ∃ rv' E' G', e = .returned (.tuple #[]) ∧ Ch w' kB eB gB B S n pv wv lv fv rv' E' G' (addK K (a, i, j)) ∧ Far (ChF kB eB gB rv) w w' ∧ (∀ k, rv'.ownBlock = some k → rv.ownBlock = some k ∨ w.heap.size ≤ k) := by
  obtain ⟨ro, rc, rfl⟩ := Src.form (Src.own hC.row)
  obtain ⟨h, hh⟩ : ∃ h, h = w.heap.size := ⟨_, rfl⟩
  obtain ⟨W, hW⟩ : ∃ W, W = w.alloc (.cells #[.int .i64 a, .int .i64 (i : Int), .int .i64 (j : Int)] 59) := ⟨_, rfl⟩
  have hF : Far (fun _ => False) w W := hW ▸ afar _ _
  have hX : Bk W h 59 #[.int .i64 a, .int .i64 (i : Int), .int .i64 (j : Int)] := hW ▸ Bk.new hh
  have hCW := hC.move hF
  have hfa : Fit a := fit_nt hp.1 hS
  have hi : i ≤ 64 := by have := hp.2; simp only at this; omega
  have hj : j ≤ 64 := by have := hp.2; simp only at this; omega
  have hlen : K.length ≤ 4326400 := by
    have h1 := pcs_count hC.ki.nd hC.ki.inn
    have h2 : S * ((n + 1) * (n + 1)) ≤ 1024 * (65 * 65) := Nat.mul_le_mul hS (Nat.mul_le_mul (by omega) (by omega))
    omega
  have HAS := chas_any kB eB gB B S n pv wv lv fv (.slice ro K.length rc) E G K a i j W hCW hfa hi hj
  have x0 : W.cell? ⟨h, 0, none⟩ = some (.int .i64 a) := hX.cell 0
  have x1 : W.cell? ⟨h, 1, none⟩ = some (.int .i64 (i : Int)) := hX.cell 1
  have x2 : W.cell? ⟨h, 2, none⟩ = some (.int .i64 (j : Int)) := hX.cell 2
  have hhw := Lib.hid (show w.heap.size = h by omega)
  have hrh := Lib.hid (show (Value.slice ro K.length rc).ownBlock ≠ some h from fun e => by have := (hC.row.lt _ e).2; omega)
  have hkh := Lib.hid (show kB ≠ h ∧ eB ≠ h ∧ gB ≠ h by have := hC.box.lt; have := hC.e.lt; have := hC.g.lt; omega)
  have hp' := Lib.hid hp
  have hX' := Lib.hid hX
  have hCW' := Lib.hid hCW
  have hF' := Lib.hid hF
  have hW' := Lib.hid hW
  clear hC hp hS hn hh hW hF hX hCW
  go_enter Tryd.func67, Tryd.ntmps67
  go_upto_region 1 with fail
  rw [hhw.out, ← hW'.out]
  go_wp2_with fail
  refine HAS.mono ?_
  rintro e w1 ⟨⟨b, rfl, hb⟩, hf1⟩
  have hX1 := Lib.hid (hX'.out.far' hf1 id)
  have hC1 := Lib.hid (hCW'.out.move hf1)
  have hF1 := Lib.hid (hF'.out.then hf1)
  clear HAS hf1 x0 x1 x2
  cases b with
  | true =>
    have hin := Lib.hid (hb.1 rfl)
    clear hb
    go_wp2_with fail
    refine bodyPost_ret (results_none rfl _ _ _) rfl ?_
    exact ⟨_, E, G, rfl, by rw [addK_old hin.out]; exact hC1.out, hF1.out.mono fun _ _ q => q.elim, fun k q => .inl q⟩
  | false =>
    have hout := Lib.hid (show (a, i, j) ∉ K from fun q => by have := hb.2 q; cases this)
    clear hb
    have x0 : w1.cell? ⟨h, 0, none⟩ = some (.int .i64 a) := hX1.out.cell 0
    have x1 : w1.cell? ⟨h, 1, none⟩ = some (.int .i64 (i : Int)) := hX1.out.cell 1
    have x2 : w1.cell? ⟨h, 2, none⟩ = some (.int .i64 (j : Int)) := hX1.out.cell 2
    have hlt : h < w1.heap.size := hX1.out.lt
    go_upto_region 2 with fail
    go_cut [4, 5] (fun u4 u5 wc => ∃ q4 q5 : Nat, u4 = .pointer (some ⟨q4, 0, none⟩) ∧ u5 = .pointer (some ⟨q5, 0, none⟩) ∧ Bk wc q4 86 #[.int .i64 a, .int .i64 (i : Int)] ∧ Bk wc q5 86 #[.int .i64 a, .int .i64 (j : Int)] ∧ Far (fun _ => False) w1 wc)
    case first =>
      have HKK := Lib.hid (show ∀ w', Far (fun _ => False) w1 w' → w'.cell? ⟨h, 0, none⟩ = some (.int .i64 a) ∧ w'.cell? ⟨h, 1, none⟩ = some (.int .i64 (i : Int)) ∧ w'.cell? ⟨h, 2, none⟩ = some (.int .i64 (j : Int)) from fun w' hf => ⟨(hX1.out.far' hf id).cell 0, (hX1.out.far' hf id).cell 1, (hX1.out.far' hf id).cell 2⟩)
      go_region_held3 (fun w' => w'.cell? ⟨h, 0, none⟩ = some (.int .i64 a) ∧ w'.cell? ⟨h, 1, none⟩ = some (.int .i64 (i : Int)) ∧ w'.cell? ⟨h, 2, none⟩ = some (.int .i64 (j : Int))) ((refine HKK.out _ ?_; (repeat' (first | exact Far.refl _ _ | exact Nat.le_refl _ | exact Nat.le_add_right _ _ | refine Far.drew ?_ | refine Far.alloc ?_ _ | refine far_set_new ?_ ?_ | omega)))) (fail)
      all_goals
        go_wp2_with fail
        go_meet
        refine ⟨_, _, rfl, rfl, ?_, ?_, ?_⟩
        · (first | exact bk_drew ((Bk.new rfl).alloc _) | exact bk_drew (Bk.new (by simp)) | exact ((Bk.new rfl).alloc _) | exact (Bk.new (by simp)))
        · (first | exact bk_drew ((Bk.new rfl).alloc _) | exact bk_drew (Bk.new (by simp)) | exact ((Bk.new rfl).alloc _) | exact (Bk.new (by simp)))
        · (repeat' (first | exact Far.refl _ _ | exact Nat.le_refl _ | exact Nat.le_add_right _ _ | refine Far.drew ?_ | refine Far.alloc ?_ _ | refine far_set_new ?_ ?_ | omega))
    case rest =>
      obtain ⟨q4, q5, rfl, rfl, hS4, hS5, hfc⟩ := hcut
      have hXc := Lib.hid (hX1.out.far' hfc id)
      have hCc := Lib.hid (hC1.out.move hfc)
      have hFc := Lib.hid (hF1.out.then hfc)
      have hS4' := Lib.hid hS4
      have hS5' := Lib.hid hS5
      have hq := Lib.hid (show ¬ ChF kB eB gB (.slice ro K.length rc) q4 ∧ ¬ ChF kB eB gB (.slice ro K.length rc) q5 from ⟨hCc.out.other hS4 (by decide) (by decide), hCc.out.other hS5 (by decide) (by decide)⟩)
      clear hfc hS4 hS5 x0 x1 x2 hlt
      -- the ends
      obtain ⟨v1, rfl⟩ : ∃ v1 : World, v1 = wc := ⟨_, rfl⟩
      have hXc4 := hXc
      have hS4 := hS4'
      have hB4 := Lib.hid hCc.out.box
      have hM4 := Lib.hid hCc.out.e
      have WI4 : Hid (Calls Tryd.prog 79 #[.agg #[.int .u64 ((E a i).1 : Int), .int .u64 ((E a i).2 : Int)], .int .i64 (j : Int)] v1.drew fun e w' => ∃ u, e = .returned u ∧ ∃ p', u = .agg #[.int .u64 ((p' : Nat × Nat).1 : Int), .int .u64 (p'.2 : Int)] ∧ Wd p' ∧ (∀ x, memP p' x = (memP (E a i) x || decide (x = j))) ∧ Far (fun _ => False) v1.drew w') := Lib.hid ((pwith_any (E a i) j (hCc.out.ki.eW a i) (by omega) v1.drew).mono fun e w' ⟨p', he, h2⟩ => ⟨_, he, p', rfl, h2⟩)
      have z0 : v1.cell? ⟨h, 2, none⟩ = some (.int .i64 (j : Int)) := hXc4.out.cell 2
      have z1 : v1.cell? ⟨q4, 0, none⟩ = some (.int .i64 a) := hS4.out.cell 0
      have z2 : v1.cell? ⟨q4, 1, none⟩ = some (.int .i64 (i : Int)) := hS4.out.cell 1
      have z3 : v1.cell? ⟨kB, 3, none⟩ = some (.map (some eB)) := hB4.out.cell 3
      have z4 := (show PM v1.drew eB K.length E from hM4.out).look hfa (fit_nat hi)
      simp only [sideV, plV] at z4
      go_upto_region 3 with fail
      go_cut [] (fun wd => ∃ p8 : Nat × Nat, Wd p8 ∧ (∀ x, memP p8 x = (memP (E a i) x || decide (x = j))) ∧ PM wd eB (K.length + 1) (putE E a i p8) ∧ Far (fun k => k = eB) v1 wd)
      case first =>
        have HKM := Lib.hid (show ∀ w', Far (fun k => k = eB) v1 w' → (w'.cell? ⟨h, 2, none⟩ = some (.int .i64 (j : Int)) ∧ w'.cell? ⟨q4, 0, none⟩ = some (.int .i64 a) ∧ w'.cell? ⟨q4, 1, none⟩ = some (.int .i64 (i : Int)) ∧ w'.cell? ⟨kB, 3, none⟩ = some (.map (some eB))) from fun w' hf => ⟨(hXc4.out.far' hf (fun e => hkh.out.2.1 e.symm)).cell 2, (hS4.out.far' hf (fun e => hq.out.1 (.inr (.inl e)))).cell 0, (hS4.out.far' hf (fun e => hq.out.1 (.inr (.inl e)))).cell 1, (hB4.out.far' hf hCc.out.kne.1).cell 3⟩)
        go_region_held3 (fun w' => w'.cell? ⟨h, 2, none⟩ = some (.int .i64 (j : Int)) ∧ w'.cell? ⟨q4, 0, none⟩ = some (.int .i64 a) ∧ w'.cell? ⟨q4, 1, none⟩ = some (.int .i64 (i : Int)) ∧ w'.cell? ⟨kB, 3, none⟩ = some (.map (some eB))) (first | exact HKM.out _ hf9'.out | exact HKM.out _ (hf8'.out.mono fun _ _ q => q.elim) | exact HKM.out _ ((drew_far v1).mono fun _ _ q => q.elim))
          (first
            | (go_at_call 79; refine WI4.out.mono ?_; rintro e w8 ⟨u8, rfl, p8, rfl, hw8, hm8, hf8⟩; have hf8' := Lib.hid ((drew_far v1).then hf8); obtain ⟨w9, hrun, hP9, hg9⟩ := (hM4.out.far hf8'.out id).put (show K.length < maxLen by unfold maxLen; omega) hfa (fit_nat hi) p8; simp only [sideV, plV] at hrun; have hf9' := Lib.hid ((hf8'.out.mono (G := fun k => k = eB) fun _ _ q => q.elim).grown hg9 fun k _ e => (Option.some.inj e).symm); have hw8' := Lib.hid hw8; have hm8' := Lib.hid hm8; have hP9' := Lib.hid hP9; clear hf8 hw8 hm8 hP9 hg9))
        all_goals
          go_wp2_with fail
          go_meet
          exact ⟨p8, hw8'.out, hm8'.out, hP9'.out, hf9'.out⟩
      case rest =>
        obtain ⟨v2, rfl⟩ : ∃ v2 : World, v2 = wc := ⟨_, rfl⟩
        obtain ⟨p8, hw8, hm8, hP8, hfd⟩ := hcut
        have hfd' := Lib.hid hfd
        have hkn := hCc.out.kne
        have hkne := Lib.hid (show kB ≠ eB ∧ kB ≠ gB ∧ eB ≠ gB ∧ h ≠ eB ∧ h ≠ gB ∧ q4 ≠ eB ∧ q5 ≠ eB ∧ q5 ≠ gB ∧ q4 ≠ gB from ⟨hkn.1, hkn.2, hCc.out.ne, fun e => hkh.out.2.1 e.symm, fun e => hkh.out.2.2 e.symm, fun e => hq.out.1 (.inr (.inl e)), fun e => hq.out.2 (.inr (.inl e)), fun e => hq.out.2 (.inr (.inr (.inl e))), fun e => hq.out.1 (.inr (.inr (.inl e)))⟩)
        have hXc5 := Lib.hid (hXc.out.far' hfd hkne.out.2.2.2.1)
        have hS5 := Lib.hid (hS5'.out.far' hfd hkne.out.2.2.2.2.2.2.1)
        have hB5 := Lib.hid (hCc.out.box.far' hfd hkne.out.1)
        have hM5 := Lib.hid (hCc.out.g.far hfd (fun e => hkne.out.2.2.1 e.symm))
        have hR5 := Lib.hid (row_far hCc.out.row hfd fun k hk e => hCc.out.rne.2.1 (e ▸ hk))
        have hE5 := Lib.hid hP8
        have hw8' := Lib.hid hw8
        have hm8' := Lib.hid hm8
        clear hP8 hw8 hm8 hfd z0 z1 z2 z3 z4 hkn
        have WI5 : Hid (Calls Tryd.prog 79 #[.agg #[.int .u64 ((G a j).1 : Int), .int .u64 ((G a j).2 : Int)], .int .i64 (i : Int)] v2.drew fun e w' => ∃ u, e = .returned u ∧ ∃ p', u = .agg #[.int .u64 ((p' : Nat × Nat).1 : Int), .int .u64 (p'.2 : Int)] ∧ Wd p' ∧ (∀ x, memP p' x = (memP (G a j) x || decide (x = i))) ∧ Far (fun _ => False) v2.drew w') := Lib.hid ((pwith_any (G a j) i (hCc.out.ki.gW a j) (by omega) v2.drew).mono fun e w' ⟨p', he, h2⟩ => ⟨_, he, p', rfl, h2⟩)
        have z0 : v2.cell? ⟨h, 1, none⟩ = some (.int .i64 (i : Int)) := hXc5.out.cell 1
        have z1 : v2.cell? ⟨q5, 0, none⟩ = some (.int .i64 a) := hS5.out.cell 0
        have z2 : v2.cell? ⟨q5, 1, none⟩ = some (.int .i64 (j : Int)) := hS5.out.cell 1
        have z3 : v2.cell? ⟨kB, 4, none⟩ = some (.map (some gB)) := hB5.out.cell 4
        have z4 := (show PM v2.drew gB K.length G from hM5.out).look hfa (fit_nat hj)
        simp only [sideV, plV] at z4
        go_upto_region 4 with fail
        go_cut [] (fun we => ∃ p8 : Nat × Nat, Wd p8 ∧ (∀ x, memP p8 x = (memP (G a j) x || decide (x = i))) ∧ PM we gB (K.length + 1) (putE G a j p8) ∧ Far (fun k => k = gB) v2 we)
        case first =>
          have HKM := Lib.hid (show ∀ w', Far (fun k => k = gB) v2 w' → (w'.cell? ⟨h, 1, none⟩ = some (.int .i64 (i : Int)) ∧ w'.cell? ⟨q5, 0, none⟩ = some (.int .i64 a) ∧ w'.cell? ⟨q5, 1, none⟩ = some (.int .i64 (j : Int)) ∧ w'.cell? ⟨kB, 4, none⟩ = some (.map (some gB))) from fun w' hf => ⟨(hXc5.out.far' hf hkne.out.2.2.2.2.1).cell 1, (hS5.out.far' hf hkne.out.2.2.2.2.2.2.2.1).cell 0, (hS5.out.far' hf hkne.out.2.2.2.2.2.2.2.1).cell 1, (hB5.out.far' hf hkne.out.2.1).cell 4⟩)
          go_region_held3 (fun w' => w'.cell? ⟨h, 1, none⟩ = some (.int .i64 (i : Int)) ∧ w'.cell? ⟨q5, 0, none⟩ = some (.int .i64 a) ∧ w'.cell? ⟨q5, 1, none⟩ = some (.int .i64 (j : Int)) ∧ w'.cell? ⟨kB, 4, none⟩ = some (.map (some gB))) (first | exact HKM.out _ hf9'.out | exact HKM.out _ (hf8'.out.mono fun _ _ q => q.elim) | exact HKM.out _ ((drew_far v2).mono fun _ _ q => q.elim))
            (first
              | (go_at_call 79; refine WI5.out.mono ?_; rintro e w8 ⟨u8, rfl, p8, rfl, hw8, hm8, hf8⟩; have hf8' := Lib.hid ((drew_far v2).then hf8); obtain ⟨w9, hrun, hP9, hg9⟩ := (hM5.out.far hf8'.out id).put (show K.length < maxLen by unfold maxLen; omega) hfa (fit_nat hj) p8; simp only [sideV, plV] at hrun; have hf9' := Lib.hid ((hf8'.out.mono (G := fun k => k = gB) fun _ _ q => q.elim).grown hg9 fun k _ e => (Option.some.inj e).symm); have hw8' := Lib.hid hw8; have hm8' := Lib.hid hm8; have hP9' := Lib.hid hP9; clear hf8 hw8 hm8 hP9 hg9))
          all_goals
            go_wp2_with fail
            go_meet
            exact ⟨p8, hw8'.out, hm8'.out, hP9'.out, hf9'.out⟩
        case rest =>
          obtain ⟨v3, rfl⟩ : ∃ v3 : World, v3 = wc := ⟨_, rfl⟩
          obtain ⟨p7, hw7, hm7, hP7, hfe⟩ := hcut
          have hX6 := Lib.hid (hXc5.out.far' hfe hkne.out.2.2.2.2.1)
          have hB6 := Lib.hid (hB5.out.far' hfe hkne.out.2.1)
          have hE6 := Lib.hid (hE5.out.far hfe hkne.out.2.2.1)
          have hG6 := Lib.hid hP7
          have hR6 := Lib.hid (row_far hR5.out hfe fun k hk e => hCc.out.rne.2.2 (e ▸ hk))
          have hF6 := Lib.hid ((hFc.out.mono (G := ChF kB eB gB (.slice ro K.length rc)) fun _ _ q => q.elim).trans ((hfd'.out.mono (G := ChF kB eB gB (.slice ro K.length rc)) fun k _ e => .inr (.inl e)).trans (hfe.mono (G := ChF kB eB gB (.slice ro K.length rc)) fun k _ e => .inr (.inr (.inl e))) fun _ _ q => q) fun _ _ q => q)
          have hw7' := Lib.hid hw7
          have hm7' := Lib.hid hm7
          have hB3 := Lib.hid (show B ≤ v3.heap.size from Nat.le_trans hCc.out.hi (Nat.le_trans hfd'.out.size hfe.size))
          have hz3 := Lib.hid (show w.heap.size ≤ v3.heap.size from hF6.out.size)
          clear hP7 hw7 hm7 hfe z0 z1 z2 z3 z4
          obtain ⟨pi, pz, pi1, pi2, pi3, pi4, pi5⟩ := info3 info_piece
          have A7 : 0 < 3 := by decide
          have x0 : v3.cell? ⟨h, 0, none⟩ = some (.int .i64 a) := hX6.out.cell 0
          have x1 : v3.cell? ⟨h, 1, none⟩ = some (.int .i64 (i : Int)) := hX6.out.cell 1
          have x2 : v3.cell? ⟨h, 2, none⟩ = some (.int .i64 (j : Int)) := hX6.out.cell 2
          have x5 : v3.cell? ⟨kB, 5, none⟩ = some (.slice ro K.length rc) := hB6.out.cell 5
          have lf : kB < v3.heap.size := hB6.out.lt
          have lh : h < v3.heap.size := hX6.out.lt
          have hqk := Lib.hid (hCc.out.rne.1)
          have B1 := Lib.hid (World.ownsRow.alloc (show World.ownsRow v3.drew _ _ _ _ _ _ from hR6.out) (.cells #[.int .i64 a, .int .i64 (i : Int), .int .i64 (j : Int)] 59))
          have B7 := Lib.hid (World.news_of_block (w := (v3.drew.alloc (.cells #[.int .i64 a, .int .i64 (i : Int), .int .i64 (j : Int)] 59))) (heap_alloc_new v3.drew _))
          have B3 := Lib.hid (show ∀ u ∈ [Value.int .i64 a, .int .i64 (i : Int), .int .i64 (j : Int)], u.oneCell' = true by simp [Value.oneCell'])
          have B4 : K.length + 1 ≤ maxLen := by unfold maxLen; omega
          have B5 : (K.length + 1) * 24 ≤ 140737488355328 := by omega
          have B6 : B ≤ (v3.drew.alloc (.cells #[.int .i64 a, .int .i64 (i : Int), .int .i64 (j : Int)] 59)).heap.size := by
            rw [World.size_alloc]
            exact Nat.le_succ_of_le hB3.out
          go_upto_region 5 with fail
          go_region_law
            (first
              | (refine step_append_lies _ rfl (.tmp 51) (.tmp 53) 81 rfl B 59 pi pz 3 24 Tryd.underlying81 pi1 pi2 pi3 pi4 pi5 A7 (.slice ro K.length rc) K.length _ rfl B1.out ⟨v3.heap.size, 0, none⟩ 1 1 [.int .i64 a, .int .i64 (i : Int), .int .i64 (j : Int)] rfl rfl B7.out B3.out (by decide) B4 B5 B6 _ rfl ?_; intro g2 c3 w5 ho5 hg5 hw5 _; have hO5' := Lib.hid (Bk.grown (w := (v3.drew.alloc (.cells #[.int .i64 a, .int .i64 (i : Int), .int .i64 (j : Int)] 59))) (Bk.alloc (show Bk v3.drew kB _ _ from hB6.out) _) hg5 hqk.out); have u1 : w5.frozen? ⟨kB, 5, none⟩ = false := hO5'.out.free 5; have u9 : w5.cell? ⟨kB, 5, none⟩ = some (.slice ro K.length rc) := hO5'.out.cell 5; have ho5' := Lib.hid ho5; have hg5' := Lib.hid hg5; have hw5' := Lib.hid hw5; clear ho5 hg5 hw5))
          all_goals
            go_wp2_with fail
            have hfg : Far (fun k => (Value.slice ro K.length rc).ownBlock = some k) v3 w5 := ((Far.refl (fun k => (Value.slice ro K.length rc).ownBlock = some k) v3).drew.alloc (.cells #[.int .i64 a, .int .i64 (i : Int), .int .i64 (j : Int)] 59)).grown hg5'.out fun k _ e => e
            have hS6 : Far (fun k => k = kB) w5 (w5.setCell ⟨kB, 5, none⟩ (.slice (some ⟨g2, 0, none⟩) (K.length + 1) c3)) := (Far.refl _ w5).set _ _ fun _ => rfl
            have hki := hCc.out.ki.push hout.out hp'.out hw8'.out hw7'.out hm8'.out hm7'.out
            have hg2 : (Value.slice (some ⟨g2, 0, none⟩) (K.length + 1) c3).ownBlock = some g2 := rfl
            refine bodyPost_end (results_none rfl _ _ _) rfl ?_
            refine ⟨rfl, .slice (some ⟨g2, 0, none⟩) (K.length + 1) c3, ⟨putE E a i p8, putE G a j p7, ?_⟩, ?_, fun k hk => ?_⟩
            · rw [addK_new hout.out]
              refine ⟨hO5'.out.set 5 _, ?_, ?_, ?_, hCc.out.ne, hki, Nat.le_trans hB3.out (Nat.le_trans hfg.size hS6.size)⟩
              · rw [List.length_append, List.length_singleton]
                exact (hE6.out.far hfg hCc.out.rne.2.1).far hS6 fun e => hkne.out.1 e.symm
              · rw [List.length_append, List.length_singleton]
                exact (hG6.out.far hfg hCc.out.rne.2.2).far hS6 fun e => hkne.out.2.1 e.symm
              · rw [List.length_append, List.length_singleton, pcells_app]
                exact row_far ho5'.out hS6 fun k hk e => own_ne ho5'.out hO5'.out (by decide) (e ▸ hk)
            · exact (hF6.out.trans (hfg.mono (G := ChF kB eB gB (.slice ro K.length rc)) fun k _ e => .inr (.inr (.inr e))) fun _ _ q => q).trans (hS6.mono (G := ChF kB eB gB (.slice ro K.length rc)) fun k _ e => .inl e) fun _ _ q => q
            · cases hk
              rcases hw5'.out with e | e
              · exact .inl e
              · refine .inr ?_
                rw [e]
                show w.heap.size ≤ (v3.alloc _).heap.size
                rw [World.size_alloc]
                exact Nat.le_succ_of_le hz3.out
end
end Go.Proofs.YteojbnkjphghkaaDoor
