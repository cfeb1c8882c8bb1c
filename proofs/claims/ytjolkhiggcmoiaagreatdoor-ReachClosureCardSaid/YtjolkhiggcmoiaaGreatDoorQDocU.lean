/-
  The document's matrices: Has, Less, Same.
-/
import Derived.Test.YtjolkhiggcmoiaaGreatDoorQDocT
namespace Go.Proofs.YtjolkhiggcmoiaaGreatDoor
open Go.RowKit Go.Shelf
set_option linter.unusedVariables false
set_option linter.unusedSimpArgs false
def lessL (B : Nat → Nat → Bool) (L : List (Nat × Nat)) : List (Nat × Nat) := L.filter fun x => !B x.1 x.2
theorem lessL_step {B : Nat → Nat → Bool} {L : List (Nat × Nat)} {k a b : Nat} (h : L[k]? = some (a, b)) : lessL B (L.take (k + 1)) = if B a b = true then lessL B (L.take k) else lessL B (L.take k) ++ [(a, b)] := by
  unfold lessL
  rw [List.take_add_one, h, Option.toList_some, List.filter_append]
  cases e : B a b <;> simp [e]
theorem lessL_le (B : Nat → Nat → Bool) (L : List (Nat × Nat)) : (lessL B L).length ≤ L.length := List.length_filter_le _ _
theorem cellsL_inj {A B : Nat → Nat → Bool} {s : Nat} (ha : ∀ r c, A r c = true → r < s ∧ c < s) (hb : ∀ r c, B r c = true → r < s ∧ c < s) : cellsL A s = cellsL B s ↔ ∀ r c, A r c = B r c := by
  constructor
  · intro h r c
    rw [Bool.eq_iff_iff]
    have h1 := mem_cellsL (y := (r, c)) ha
    have h2 := mem_cellsL (y := (r, c)) hb
    rw [h] at h1
    exact h1.symm.trans h2
  · intro h
    rw [show A = B from funext fun r => funext fun c => h r c]
section
set_option maxHeartbeats 8000000
set_option maxRecDepth 100000
theorem rhas_any {w : World} {v : Value} {s : Nat} {M : Nat → Nat → Bool} (hm : Dm w v s M) (i j : Nat) : Calls Tryz.prog 49 #[v, .int .i64 (i : Nat), .int .i64 (j : Nat)] w fun e w' => e = .returned (.bool (M i j)) ∧ Far (fun _ => False) w w' := by
  have hlen := hm.len
  obtain ⟨ao, cap, rfl, hP, hcap, hs, hw⟩ := hm
  obtain ⟨h3, hh3⟩ : ∃ h, h = w.heap.size := ⟨_, rfl⟩
  have PA := fun (V : World) (hV : Far (fun _ => False) w V) => place_any (cellsL M s) (cellsK_rise M s s) _ rfl (by omega) ao cap i j V (hP.move hV)
  obtain ⟨n, hn⟩ : ∃ n, (cellsL M s).length = n := ⟨_, rfl⟩
  rw [hn] at PA ⊢
  obtain ⟨W0, hW0⟩ : ∃ V, V = w.alloc (.cells #[.int .i64 (s : Nat), .slice ao n cap] 27) := ⟨_, rfl⟩
  have hF0 : Far (fun _ => False) w W0 := hW0 ▸ (Far.refl _ w).alloc _
  have hB3 : Bk W0 h3 27 #[.int .i64 (s : Nat), .slice ao n cap] := hW0 ▸ Bk.new hh3
  have c1 : W0.cell? ⟨h3, 1, none⟩ = some (.slice ao n cap) := hB3.cell 1
  have hin : decide ((i, j) ∈ cellsL M s) = M i j := by
    rw [Bool.eq_iff_iff, decide_eq_true_eq]
    exact mem_cellsL (y := (i, j)) hw
  have PA1 := PA W0 hF0
  rw [hin] at PA1
  obtain ⟨b, hb⟩ : ∃ b, M i j = b := ⟨_, rfl⟩
  rw [hb] at PA1 ⊢
  have hF0' := Lib.hid hF0
  have hW0' := Lib.hid hW0
  have hh3' := Lib.hid hh3
  clear PA hP hw hn hin hb hF0 hB3 hW0 hh3
  go_enter Tryz.func49, Tryz.ntmps49
  go_upto_region 1 with fail
  rw [← hh3'.out, ← hW0'.out]
  go_wp2_with fail
  refine PA1.mono ?_
  rintro e w1 ⟨low, rfl, hf1⟩
  have hf1' := Lib.hid hf1
  clear PA1 hf1
  go_wp2_with fail
  go_ret
  exact ⟨rfl, hF0'.out.then hf1'.out⟩
theorem rless_any {w : World} {va vb : Value} {sa sb : Nat} {A B : Nat → Nat → Bool} (ha : Dm w va sa A) (hb : Dm w vb sb B) : Calls Tryz.prog 85 #[va, vb] w fun e w' => ∃ v, e = .returned (.tuple #[v, .int .i64 (pairE sa sb : Nat)]) ∧ Dm w' v (if pairE sa sb = 0 then sa else 0) (if pairE sa sb = 0 then lsM A B else zeroM) ∧ Dn v w.heap.size ∧ Far (fun _ => False) w w' := by
  have hlenA := ha.len
  have hlenB := hb.len
  have haD := Lib.hid ha
  have hbD := Lib.hid hb
  obtain ⟨aoa, ca, rfl, hPa, hca, hsa, hwa⟩ := ha
  obtain ⟨aob, cb, rfl, hPb, hcb, hsb, hwb⟩ := hb
  have hmL : ∀ x : Nat × Nat, x ∈ lessL B (cellsL A sa) ↔ lsM A B x.1 x.2 = true := fun x => by
    unfold lessL lsM
    rw [List.mem_filter, mem_cellsL hwa, Bool.and_eq_true]
  have hrL : (lessL B (cellsL A sa)).Pairwise lexLt := (cellsK_rise A sa sa).filter _
  have hmB : ∀ x : Nat × Nat, decide (x ∈ cellsL B sb) = B x.1 x.2 := fun x => by
    rw [Bool.eq_iff_iff, decide_eq_true_eq]
    exact mem_cellsL hwb
  have hrB := cellsK_rise B sb sb
  change (cellsL B sb).Pairwise lexLt at hrB
  obtain ⟨LA, hLA⟩ : ∃ L, cellsL A sa = L := ⟨_, rfl⟩
  obtain ⟨LB, hLB⟩ : ∃ L, cellsL B sb = L := ⟨_, rfl⟩
  rw [hLA] at hPa hca hlenA hmL hrL ⊢
  rw [hLB] at hPb hcb hlenB hmB hrB ⊢
  obtain ⟨na, hna⟩ : ∃ n, LA.length = n := ⟨_, rfl⟩
  obtain ⟨nb, hnb⟩ : ∃ n, LB.length = n := ⟨_, rfl⟩
  rw [hna] at hca hlenA ⊢
  rw [hnb] at hcb hlenB ⊢
  obtain ⟨h2, hh2⟩ : ∃ h, h = w.heap.size := ⟨_, rfl⟩
  obtain ⟨h3, hh3⟩ : ∃ h, h = h2 + 1 := ⟨_, rfl⟩
  obtain ⟨h4, hh4⟩ : ∃ h, h = h3 + 1 := ⟨_, rfl⟩
  obtain ⟨W0, hW0⟩ : ∃ V, V = ((w.alloc (.cells #[.int .i64 (sa : Nat), .slice aoa na ca] 27)).alloc (.cells #[.int .i64 (sb : Nat), .slice aob nb cb] 27)).alloc (.cells #[.int .i64 0, .slice none 0 0] 27) := ⟨_, rfl⟩
  have hF0 : Far (fun _ => False) w W0 := hW0 ▸ (((Far.refl _ w).alloc _).alloc _).alloc _
  have hB2 : Bk W0 h2 27 #[.int .i64 (sa : Nat), .slice aoa na ca] := hW0 ▸ ((Bk.new hh2).alloc _).alloc _
  have hB3 : Bk W0 h3 27 #[.int .i64 (sb : Nat), .slice aob nb cb] := hW0 ▸ (Bk.new (by simp [hh3, hh2])).alloc _
  have hB4 : Bk W0 h4 27 #[.int .i64 0, .slice none 0 0] := hW0 ▸ Bk.new (by simp [hh4, hh3, hh2])
  have n42 : h4 ≠ h2 := by omega
  have n43 : h4 ≠ h3 := by omega
  have HB := Lib.hid (show ∀ V, Far (fun _ => False) W0 V → (V.cell? ⟨h2, 0, none⟩ = some (.int .i64 (sa : Nat)) ∧ V.cell? ⟨h2, 1, none⟩ = some (.slice aoa na ca) ∧ V.cell? ⟨h3, 0, none⟩ = some (.int .i64 (sb : Nat)) ∧ V.cell? ⟨h3, 1, none⟩ = some (.slice aob nb cb)) ∧ V.cell? ⟨h4, 0, none⟩ = some (.int .i64 0) ∧ V.cell? ⟨h4, 1, none⟩ = some (.slice none 0 0) ∧ V.frozen? ⟨h4, 0, none⟩ = false ∧ V.frozen? ⟨h4, 1, none⟩ = false from fun V hf => ⟨⟨(hB2.far' hf id).cell 0, (hB2.far' hf id).cell 1, (hB3.far' hf id).cell 0, (hB3.far' hf id).cell 1⟩, (hB4.far' hf id).cell 0, (hB4.far' hf id).cell 1, (hB4.far' hf id).free 0, (hB4.far' hf id).free 1⟩)
  have HP := Lib.hid (show ∀ V, Far (fun _ => False) W0 V → PL V aoa LA ∧ PL V aob LB from fun V hf => ⟨hPa.move (hF0.then hf), hPb.move (hF0.then hf)⟩)
  have PR := rpair_any W0 sa sb aoa na ca aob nb cb
  obtain ⟨⟨z20, z21, z30, z31⟩, _⟩ := HB.out W0 (Far.refl _ _)
  have hna' := Lib.hid hna
  have hnb' := Lib.hid hnb
  have hmL' := Lib.hid hmL
  have hrL' := Lib.hid hrL
  have hmB' := Lib.hid hmB
  have hrB' := Lib.hid hrB
  have hwa' := Lib.hid hwa
  have hW0' := Lib.hid hW0
  have hF0' := Lib.hid hF0
  have hB4' := Lib.hid hB4
  have e2 := Lib.hid hh2
  have e3 := Lib.hid hh3
  have e4 := Lib.hid hh4
  have hlo := Lib.hid (show w.heap.size ≤ h4 by omega)
  clear hPa hPb hLA hLB hna hnb hwa hwb hmL hmB hrL hrB hW0 hF0 hB2 hB3 hB4 hh2 hh3 hh4
  by_cases hE : pairE sa sb = 0
  · have hss : sa = sb := by
      unfold pairE at hE
      split at hE
      · cases hE
      · split at hE
        · assumption
        · cases hE
    subst hss
    rw [hE] at PR ⊢
    rw [if_pos rfl, if_pos rfl]
    clear hE
    go_enter Tryz.func85, Tryz.ntmps85
    go_upto_region 1 with fail
    rw [← e2.out, ← e3.out, ← e4.out, ← hW0'.out]
    go_wp2_with fail
    refine PR.mono ?_
    rintro e W1 ⟨rfl, hf1⟩
    have hf1' := Lib.hid hf1
    clear PR hf1 z20 z21 z30 z31
    go_wp2_with fail
    go_loopw [7, 8] (fun lv kv wr => ∃ k : Nat, k ≤ na ∧ kv = .int .i64 (k : Nat) ∧ wr.ownsRow W0.heap.size 71 2 lv (lessL B (LA.take k)).length (ccells (lessL B (LA.take k))) ∧ Far (fun _ => False) W0 wr) (fun _ kv _ => na - (intOf kv).toNat)
    case atStart => exact ⟨0, Nat.zero_le _, rfl, World.ownsRow_nil _ _ _ _, hf1'.out⟩
    case round =>
      obtain ⟨k, hk, rfl, hO, hf⟩ := hrel
      obtain ⟨wd, hwd⟩ : ∃ wd, wd = wr := ⟨_, rfl⟩
      rw [← hwd] at hO hf ⊢
      clear hwd
      obtain ⟨⟨b20, b21, b30, b31⟩, x40, x41, fr0, fr1⟩ := HB.out wd hf
      by_cases hlt : k < na
      · have hki : (k : Int) < (na : Int) := by omega
        have hkb : (k : Int) + 1 ≤ 9223372036854775807 := by omega
        have hk0 : (0 : Int) ≤ (k : Int) := by omega
        obtain ⟨⟨r, c⟩, hx⟩ := atS (l := LA) (k := k) (by rw [hna'.out]; exact hlt)
        obtain ⟨hPA, hPB⟩ := HP.out wd hf
        obtain ⟨ga, oa, rfl, hga, pa0, pa1⟩ := hPA.at hx
        have hst := lessL_step (B := B) hx
        obtain ⟨O, hOO⟩ : ∃ O, O = lessL B (LA.take k) := ⟨_, rfl⟩
        obtain ⟨n, hn⟩ : ∃ n, n = O.length := ⟨_, rfl⟩
        have hnn : n ≤ 1048576 := by
          have h1 := lessL_le B (LA.take k)
          have h2 := List.length_take_le k LA
          rw [hn, hOO]
          omega
        rw [← hOO] at hst hO
        rw [← hn] at hO
        obtain ⟨oo, oc, rfl⟩ := q_form hO
        have PA := Lib.hid (fun (V : World) (hV : Far (fun _ => False) W0 V) => place_any LB hrB'.out nb hnb'.out.symm (by omega) aob cb r c V (HP.out V hV).2)
        have hin := hmB'.out (r, c)
        dsimp only at hin
        obtain ⟨b, hb⟩ : ∃ b, B r c = b := ⟨_, rfl⟩
        rw [hb] at hin hst
        rw [hin] at PA
        have HS := Lib.hid (show ∀ V, Far (fun _ => False) W0 V → V.cell? ⟨h2, 1, none⟩ = some (.slice (some ⟨ga, oa, none⟩) na ca) ∧ V.cell? ⟨h3, 1, none⟩ = some (.slice aob nb cb) ∧ V.cell? ⟨ga, oa + k * 2, none⟩ = some (.int .i64 (r : Nat)) ∧ V.cell? ⟨ga, oa + k * 2 + 1, none⟩ = some (.int .i64 (c : Nat)) from fun V hV => by
          obtain ⟨⟨_, q21, _, q31⟩, _⟩ := HB.out V hV
          obtain ⟨g, o, e, _, r0, r1⟩ := (HP.out V hV).1.at hx
          cases e
          exact ⟨q21, q31, r0, r1⟩)
        have hfd := Lib.hid (hf.then (Far.refl (fun _ => False) wd).drew)
        have hO' := Lib.hid hO
        have hfw := Lib.hid hf
        have hst' := Lib.hid hst
        have hn' := Lib.hid hn
        clear hx hO hf hPA hPB hst hin hb hOO hn x40 x41 fr0 fr1
        go_upto_region 8 with fail
        go_cut [9, 10] (fun t9 t10 wc => ∃ low : Nat, t9 = .int .i64 (low : Nat) ∧ t10 = .bool b ∧ Far (fun _ => False) wd wc)
        case first =>
          go_region_held3 (fun V => V.cell? ⟨h2, 1, none⟩ = some (.slice (some ⟨ga, oa, none⟩) na ca) ∧ V.cell? ⟨h3, 1, none⟩ = some (.slice aob nb cb) ∧ V.cell? ⟨ga, oa + k * 2, none⟩ = some (.int .i64 (r : Nat)) ∧ V.cell? ⟨ga, oa + k * 2 + 1, none⟩ = some (.int .i64 (c : Nat))) (first | exact HS.out _ hf9'.out | exact HS.out _ hfd.out)
            ((go_at_call 87; (with_reducible refine (PA.out _ hfd.out).mono ?_); rintro e w9 ⟨low, rfl, hf9⟩; have hf9' := Lib.hid (hfd.out.then hf9); have hfz := Lib.hid (((Far.refl (fun _ => False) wd).drew).then hf9); clear hf9))
          all_goals
            go_wp2_with fail
            go_meet
            exact ⟨low, rfl, rfl, hfz.out⟩
        case rest =>
          obtain ⟨low, rfl, rfl, hfc⟩ := hcut
          obtain ⟨we, hwe⟩ : ∃ V, V = wc := ⟨_, rfl⟩
          rw [← hwe] at hfc ⊢
          clear hwe
          obtain ⟨c21, c31, pa0, pa1⟩ := HS.out we (hfw.out.then hfc)
          have hOe := Lib.hid (row_same hO'.out fun q _ hl => hfc.block q hl id)
          have hfe := Lib.hid (hfw.out.then hfc)
          clear hfc b20 b21 b30 b31
          cases b with
          | true =>
            have hfin := Lib.hid (show we.ownsRow W0.heap.size 71 2 (.slice oo n oc) (lessL B (LA.take (k + 1))).length (ccells (lessL B (LA.take (k + 1)))) by
              rw [hst'.out, if_pos rfl, ← hn'.out]
              exact hOe.out)
            go_wp2_with fail
            go_roundw
            case rel => exact ⟨k + 1, by omega, by go_num, hfin.out, hfe.out⟩
            case measure => simp only [intOf]; omega
          | false =>
            obtain ⟨ci, hci, hz0, hz1, hz2⟩ := info_parts cellInfo
            have C1 := Lib.hid (World.ownsRow.alloc hOe.out (.cells #[.int .i64 (r : Nat), .int .i64 (c : Nat)] 71))
            have C7 := Lib.hid (World.news_of_block (w := we.alloc (.cells #[.int .i64 (r : Nat), .int .i64 (c : Nat)] 71)) (cs := #[.int .i64 (r : Nat), .int .i64 (c : Nat)]) (t := 71) (fr := (0, 0)) (heap_alloc_new we _))
            have C3 := Lib.hid (show ∀ u9 ∈ [(.int .i64 (r : Nat) : Value), .int .i64 (c : Nat)], u9.oneCell' = true by simp [Value.oneCell'])
            have C4 : n + 1 ≤ maxLen := by unfold maxLen; omega
            have C5 : (n + 1) * 16 ≤ 140737488355328 := by omega
            have C6 : W0.heap.size ≤ (we.alloc (.cells #[.int .i64 (r : Nat), .int .i64 (c : Nat)] 71)).heap.size := by have := hfe.out.size; simp; omega
            go_wp2_with (at_builtin; refine wpList_append_own _ rfl _ _ 22 rfl W0.heap.size 71 ci _ 2 16 Tryz.underlying22 hci hz0 hz1 hz2 rfl (by decide) (.slice oo n oc) n _ rfl C1.out ⟨we.heap.size, 0, none⟩ 1 1 [.int .i64 (r : Nat), .int .i64 (c : Nat)] rfl rfl C7.out C3.out C4 C5 C6 ?_; intro v2 w6 ho6 hg6 hn6; have ho6' := Lib.hid ho6; have hg6' := Lib.hid hg6; clear ho6 hg6 hn6)
            have fa := Lib.hid ((hfe.out.alloc _).trans (grown_F hg6'.out) fun q hq e => by have := (own_type hOe.out e).1; omega : Far (fun _ => False) W0 w6)
            have hfin := Lib.hid (show w6.ownsRow W0.heap.size 71 2 v2 (lessL B (LA.take (k + 1))).length (ccells (lessL B (LA.take (k + 1)))) by
              rw [hst'.out, if_neg Bool.false_ne_true, ccells_app, List.length_append, List.length_singleton, ← hn'.out]
              exact ho6'.out)
            go_roundw
            case rel => exact ⟨k + 1, by omega, by go_num, hfin.out, fa.out⟩
            case measure => simp only [intOf]; omega
      · have e : k = na := by omega
        subst e
        rw [show LA.take k = LA by rw [← hna'.out, List.take_length]] at hO
        obtain ⟨n, hn⟩ : ∃ n, n = (lessL B LA).length := ⟨_, rfl⟩
        rw [← hn] at hO
        obtain ⟨oo, oc, rfl⟩ := q_form hO
        have hO' := Lib.hid hO
        have hf' := Lib.hid hf
        have hn' := Lib.hid hn
        clear hO hf hn
        go_wp2_with fail
        (try simp only [Exit.inBlock, Exit.then])
        obtain ⟨w7, hw7⟩ : ∃ V, V = (wd.setCell ⟨h4, 0, none⟩ (.int .i64 (sa : Nat))).setCell ⟨h4, 1, none⟩ (.slice oo n oc) := ⟨_, rfl⟩
        have hB9 := hB4'.out.far' hf'.out id
        have hB7 : Bk w7 h4 27 #[.int .i64 (sa : Nat), .slice oo n oc] := hw7 ▸ (hB9.set 0 _).set 1 _
        have hf67 : Far (fun q => q = h4) wd w7 := hw7 ▸ ((Far.refl (fun q => q = h4) wd).set ⟨h4, 0, none⟩ _ fun _ => rfl).set ⟨h4, 1, none⟩ _ fun _ => rfl
        have hf7 : Far (fun _ => False) w w7 := (hF0'.out.then hf'.out).trans hf67 fun q hq e => by have := hlo.out; omega
        have c0 : w7.cell? ⟨h4, 0, none⟩ = some (.int .i64 (sa : Nat)) := hB7.cell 0
        have c1 : w7.cell? ⟨h4, 1, none⟩ = some (.slice oo n oc) := hB7.cell 1
        have ho7 := row_same hO'.out fun q hq hl => hf67.block q hl fun e => by
          obtain ⟨_, _, cs, hb2⟩ := own_type hO'.out hq
          rw [e] at hb2
          have := bk_type hb2 hB9
          revert this; decide
        have hDn : Dn (.agg #[.int .i64 (sa : Nat), .slice oo n oc]) w.heap.size := fun _ _ _ _ e a ha => by
          cases e
          subst ha
          obtain ⟨h1, _⟩ := own_type hO'.out (k := a.block) rfl
          have := hF0'.out.size
          omega
        have hD : Dm w7 (.agg #[.int .i64 (sa : Nat), .slice oo n oc]) sa (lsM A B) := Dm.own hsa (fun r c h => by
          unfold lsM at h
          rw [Bool.and_eq_true] at h
          exact hwa'.out r c h.1) hrL'.out (fun x => hmL'.out x) ho7 hn'.out
        rw [← hw7]
        exact bodyPost_ret (v := .tuple #[.agg #[.int .i64 (sa : Nat), .slice oo n oc], .int .i64 0]) (by simp [results, Tryz.f85, go_sem, c0, c1]) rfl ⟨_, rfl, hD, hDn, hf7⟩
  · obtain ⟨E, hEE⟩ : ∃ E, pairE sa sb = E := ⟨_, rfl⟩
    rw [hEE] at PR hE ⊢
    rw [if_neg hE, if_neg hE]
    have E0 := nat_beq0 hE
    have E1 : ((E : Int) != 0) = true := by simp; omega
    have E2 : ¬ (E : Int) = 0 := by omega
    clear hEE hE
    go_enter Tryz.func85, Tryz.ntmps85
    go_upto_region 1 with fail
    rw [← e2.out, ← e3.out, ← e4.out, ← hW0'.out]
    go_wp2_with fail
    refine PR.mono ?_
    rintro e W1 ⟨rfl, hf1⟩
    obtain ⟨⟨y20, y21, y30, y31⟩, x40, x41, fr0, fr1⟩ := HB.out W1 hf1
    have hf1' := Lib.hid hf1
    clear PR hf1 z20 z21 z30 z31
    go_wp2_with fail
    (try simp only [Exit.inBlock, Exit.then])
    have hB9 := hB4'.out.far' hf1'.out id
    obtain ⟨w7, hw7⟩ : ∃ V, V = (W1.setCell ⟨h4, 0, none⟩ (.int .i64 0)).setCell ⟨h4, 1, none⟩ (.slice none 0 0) := ⟨_, rfl⟩
    have hB7 : Bk w7 h4 27 #[.int .i64 0, .slice none 0 0] := hw7 ▸ (hB9.set 0 _).set 1 _
    have hf67 : Far (fun q => q = h4) W1 w7 := hw7 ▸ ((Far.refl (fun q => q = h4) W1).set ⟨h4, 0, none⟩ _ fun _ => rfl).set ⟨h4, 1, none⟩ _ fun _ => rfl
    have hf7 : Far (fun _ => False) w w7 := (hF0'.out.then hf1'.out).trans hf67 fun q hq e => by have := hlo.out; omega
    have c0 : w7.cell? ⟨h4, 0, none⟩ = some (.int .i64 0) := hB7.cell 0
    have c1 : w7.cell? ⟨h4, 1, none⟩ = some (.slice none 0 0) := hB7.cell 1
    rw [← hw7]
    exact bodyPost_ret (v := .tuple #[.agg #[.int .i64 0, .slice none 0 0], .int .i64 (E : Nat)]) (by simp [results, Tryz.f85, go_sem, c0, c1]) rfl ⟨_, rfl, Dm.none _, Dn.none _, hf7⟩
end
end Go.Proofs.YtjolkhiggcmoiaaGreatDoor
