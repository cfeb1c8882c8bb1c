/-
  The document's matrices: Turn, place, Has.
-/
import Derived.Test.YtjolkhiggcmoiaaDoorQDocS
import Derived.Deep.RegionHeld3
import Derived.Deep.AppendLies
namespace Go.Proofs.YtjolkhiggcmoiaaDoor
open Go.RowKit Go.Shelf
set_option linter.unusedVariables false
set_option linter.unusedSimpArgs false
theorem quo_two (t : Nat) : (t : Int) / 2 = ((t / 2 : Nat) : Int) ∧ (t : Int).tdiv 2 = ((t / 2 : Nat) : Int) := by
  have h : (t : Int) / 2 = ((t / 2 : Nat) : Int) := by omega
  exact ⟨h, by rw [Int.tdiv_eq_ediv_of_nonneg (Int.natCast_nonneg _)]; exact h⟩
theorem rise_ltL {L : List (Nat × Nat)} (h : L.Pairwise lexLt) {i j : Nat} {x y : Nat × Nat} (hi : L[i]? = some x) (hj : L[j]? = some y) (hij : i < j) : lexLt x y := by
  obtain ⟨h1, rfl⟩ := List.getElem?_eq_some_iff.1 hi
  obtain ⟨h2, rfl⟩ := List.getElem?_eq_some_iff.1 hj
  exact List.pairwise_iff_getElem.1 h i j h1 h2 hij
theorem lex_trans {x y z : Nat × Nat} (h1 : lexLt x y) (h2 : lexLt y z) : lexLt x z := by unfold lexLt at *; omega
theorem lex_irr {x : Nat × Nat} (h : lexLt x x) : False := by unfold lexLt at h; omega
section
set_option maxHeartbeats 8000000
set_option maxRecDepth 100000
theorem rturn_any {w : World} {v : Value} {s : Nat} {M : Nat → Nat → Bool} (hm : Dm w v s M) : Calls Tryd.prog 13 #[v] w fun e w' => ∃ v', e = .returned v' ∧ Dm w' v' s (tnM M) ∧ Dn v' w.heap.size ∧ Far (fun _ => False) w w' := by
  have hlenA := hm.len
  obtain ⟨ao, cap, rfl, hP, hcap, hs, hw⟩ := hm
  have hmA : ∀ x : Nat × Nat, x ∈ turnL (cellsL M s) ↔ tnM M x.1 x.2 = true := fun x => turnL_mem.trans (mem_cellsL hw)
  have hmL : ∀ (k : Nat) (x : Nat × Nat), (cellsL M s)[k]? = some x → x.1 < s ∧ x.2 < s := fun k x h => hw _ _ ((mem_cellsL hw).1 (List.mem_of_getElem? h))
  obtain ⟨L, hL⟩ : ∃ L, cellsL M s = L := ⟨_, rfl⟩
  rw [hL] at hP hcap hlenA hmA hmL ⊢
  obtain ⟨n, hn⟩ : ∃ n, L.length = n := ⟨_, rfl⟩
  rw [hn] at hcap hlenA ⊢
  obtain ⟨h1, hh1⟩ : ∃ h, h = w.heap.size := ⟨_, rfl⟩
  obtain ⟨h2, hh2⟩ : ∃ h, h = h1 + 1 := ⟨_, rfl⟩
  obtain ⟨W0, hW0⟩ : ∃ V, V = (w.alloc (.cells #[.int .i64 (s : Nat), .slice ao n cap] 28)).alloc (.cells #[.int .i64 0, .slice none 0 0] 28) := ⟨_, rfl⟩
  have hF0 : Far (fun _ => False) w W0 := hW0 ▸ ((Far.refl _ w).alloc _).alloc _
  have hB1 : Bk W0 h1 28 #[.int .i64 (s : Nat), .slice ao n cap] := hW0 ▸ (Bk.new hh1).alloc _
  have hB2 : Bk W0 h2 28 #[.int .i64 0, .slice none 0 0] := hW0 ▸ Bk.new (by simp [hh2, hh1])
  have n21 : h2 ≠ h1 := by omega
  have HB := Lib.hid (show ∀ V, Far (fun _ => False) W0 V → V.cell? ⟨h1, 0, none⟩ = some (.int .i64 (s : Nat)) ∧ V.cell? ⟨h1, 1, none⟩ = some (.slice ao n cap) from fun V hf => ⟨(hB1.far' hf id).cell 0, (hB1.far' hf id).cell 1⟩)
  have HP := Lib.hid (show ∀ V, Far (fun _ => False) W0 V → PL V ao L from fun V hf => hP.move (hF0.then hf))
  have hn' := Lib.hid hn
  have hmA' := Lib.hid hmA
  have hmL' := Lib.hid hmL
  have hw' := Lib.hid hw
  have hW0' := Lib.hid hW0
  have hF0' := Lib.hid hF0
  have hB2' := Lib.hid hB2
  have hh1' := Lib.hid hh1
  have hh2' := Lib.hid hh2
  have hlo := Lib.hid (show w.heap.size ≤ h2 by omega)
  clear hP hL hn hw hmA hmL hW0 hF0 hB1 hB2 hh1 hh2
  go_enter Tryd.func13, Tryd.ntmps13
  go_upto_region 1 with fail
  rw [← hh1'.out, ← hh2'.out, ← hW0'.out]
  go_wp2_with fail
  go_loopw [3, 4] (fun lv kv wr => ∃ k : Nat, k ≤ n ∧ kv = .int .i64 (k : Nat) ∧ wr.ownsRow W0.heap.size 61 2 lv k (ccells (turnL (L.take k))) ∧ Far (fun _ => False) W0 wr) (fun _ kv _ => n - (intOf kv).toNat)
  case atStart => exact ⟨0, Nat.zero_le _, rfl, World.ownsRow_nil _ _ _ _, Far.refl _ _⟩
  case round =>
    obtain ⟨k, hk, rfl, hO, hf⟩ := hrel
    obtain ⟨wd, hwd⟩ : ∃ wd, wd = wr := ⟨_, rfl⟩
    rw [← hwd] at hO hf ⊢
    clear hwd
    obtain ⟨b10, b11⟩ := HB.out wd hf
    obtain ⟨oo, oc, rfl⟩ := q_form hO
    by_cases hlt : k < n
    · have hki : (k : Int) < (n : Int) := by omega
      have hkb : (k : Int) + 1 ≤ 9223372036854775807 := by omega
      have hk0 : (0 : Int) ≤ (k : Int) := by omega
      obtain ⟨⟨r, c⟩, hx⟩ := atS (l := L) (k := k) (by rw [hn'.out]; exact hlt)
      obtain ⟨ga, oa, rfl, hga, pa0, pa1⟩ := (HP.out wd hf).at hx
      have hst := Lib.hid (turnL_step hx)
      have hO' := Lib.hid hO
      have HS := Lib.hid (show ∀ V, Far (fun _ => False) W0 V → V.cell? ⟨h1, 1, none⟩ = some (.slice (some ⟨ga, oa, none⟩) n cap) ∧ V.cell? ⟨ga, oa + k * 2, none⟩ = some (.int .i64 (r : Nat)) ∧ V.cell? ⟨ga, oa + k * 2 + 1, none⟩ = some (.int .i64 (c : Nat)) from fun V hV => by
        obtain ⟨_, q11⟩ := HB.out V hV
        obtain ⟨g, o, e, _, r0, r1⟩ := (HP.out V hV).at hx
        cases e
        exact ⟨q11, r0, r1⟩)
      obtain ⟨ci, hci, hz0, hz1, hz2⟩ := info_parts cellInfo
      have C1 := Lib.hid (World.ownsRow.alloc (show World.ownsRow wd.drew _ _ _ _ _ _ from hO) (.cells #[.int .i64 (c : Nat), .int .i64 (r : Nat)] 61))
      have C7 := Lib.hid (World.news_of_block (w := wd.drew.alloc (.cells #[.int .i64 (c : Nat), .int .i64 (r : Nat)] 61)) (cs := #[.int .i64 (c : Nat), .int .i64 (r : Nat)]) (t := 61) (fr := (0, 0)) (heap_alloc_new wd.drew _))
      have C3 := Lib.hid (show ∀ u ∈ [(.int .i64 (c : Nat) : Value), .int .i64 (r : Nat)], u.oneCell' = true by simp [Value.oneCell'])
      have C4 : k + 1 ≤ maxLen := by unfold maxLen; omega
      have C5 : (k + 1) * 16 ≤ 140737488355328 := by omega
      have hfe1 := Lib.hid (hf.then (Far.refl (fun _ => False) wd).drew)
      have hfe2 := Lib.hid (hfe1.out.alloc (.cells #[.int .i64 (c : Nat), .int .i64 (r : Nat)] 61))
      have C6 : W0.heap.size ≤ (wd.drew.alloc (.cells #[.int .i64 (c : Nat), .int .i64 (r : Nat)] 61)).heap.size := hfe2.out.size
      clear hx hO hf
      go_upto_region 5 with fail
      go_region_held3 (fun V => V.cell? ⟨h1, 1, none⟩ = some (.slice (some ⟨ga, oa, none⟩) n cap) ∧ V.cell? ⟨ga, oa + k * 2, none⟩ = some (.int .i64 (r : Nat)) ∧ V.cell? ⟨ga, oa + k * 2 + 1, none⟩ = some (.int .i64 (c : Nat))) (first | exact HS.out _ hfe1.out | exact HS.out _ hfe2.out | exact HS.out _ hF6.out)
        ((refine step_append_lies _ rfl (.tmp 12) (.tmp 26) 26 rfl W0.heap.size 61 ci _ 2 16 Tryd.underlying26 hci hz0 hz1 hz2 rfl (by decide) (.slice oo k oc) k _ rfl C1.out ⟨wd.heap.size, 0, none⟩ 1 1 [.int .i64 (c : Nat), .int .i64 (r : Nat)] rfl rfl C7.out C3.out (by decide) C4 C5 C6 _ rfl ?_; intro g5 c5 w6 ho6 hg6 hw6 _; have hF6 := Lib.hid (hfe2.out.trans (grown_F hg6) fun k hk e => by { have := (own_type C1.out e).1; omega }); have ho6' := Lib.hid ho6; clear ho6 hg6 hw6))
      go_wp2_with fail
      go_roundw
      case rel => exact ⟨k + 1, by omega, by go_num, by rw [hst.out, ccells_app]; exact ho6'.out, hF6.out⟩
      case measure => simp only [intOf]; omega
    · have e : k = n := by omega
      subst e
      rw [show L.take k = L by rw [← hn'.out, List.take_length]] at hO
      have hoc := own_cap hO
      have ST := sorted_any _ (turnL L) (Nat.le_refl _) k oo oc wd.drew (by rw [turnL_len, hn'.out]) hoc (by omega) (fun x hx => by
        have h := (hmA'.out x).1 hx
        have := hw'.out _ _ h
        omega) (PL.own (show World.ownsRow wd.drew _ _ _ _ _ _ from hO) (by rw [turnL_len, hn'.out]))
      have hf' := Lib.hid hf
      have hfd := Lib.hid (hf.then (Far.refl (fun _ => False) wd).drew)
      clear hO hf hoc
      go_upto_region 6 with fail
      go_region_held3 (fun V => V.cell? ⟨h1, 0, none⟩ = some (.int .i64 (s : Nat))) (first | exact (HB.out _ hfd.out).1 | exact (HB.out _ hf9.out).1 | go_keep)
        ((go_at_call 38; (with_reducible refine ST.mono ?_); rintro e w9 ⟨v, rfl, o, hown, hr, hm, hlen, hfs⟩; obtain ⟨vo, vc, rfl⟩ := q_form hown; have hf9 := Lib.hid (hfd.out.then hfs); have hB9 := Lib.hid (hB2'.out.far' (hfd.out.then hfs) id); have d0 : w9.cell? ⟨h2, 0, none⟩ = some (.int .i64 0) := hB9.out.cell 0; have d1 : w9.cell? ⟨h2, 1, none⟩ = some (.slice none 0 0) := hB9.out.cell 1; have f0 := hB9.out.free 0; have f1 := hB9.out.free 1; obtain ⟨c10, _⟩ := HB.out w9 hf9.out; have hown' := Lib.hid hown; have hr' := Lib.hid hr; have hm' := Lib.hid hm; obtain ⟨m, hm9⟩ : ∃ m, m = o.length := ⟨_, rfl⟩; rw [← hm9] at hown' ⊢; have hm9' := Lib.hid hm9; clear hown hr hm hlen hfs hm9))
      go_wp2_with fail
      (try simp only [Exit.inBlock, Exit.then])
      obtain ⟨w7, hw7⟩ : ∃ V, V = (w9.setCell ⟨h2, 0, none⟩ (.int .i64 (s : Nat))).setCell ⟨h2, 1, none⟩ (.slice vo m vc) := ⟨_, rfl⟩
      have hB7 : Bk w7 h2 28 #[.int .i64 (s : Nat), .slice vo m vc] := hw7 ▸ (hB9.out.set 0 _).set 1 _
      have hf67 : Far (fun q => q = h2) w9 w7 := hw7 ▸ ((Far.refl (fun q => q = h2) w9).set ⟨h2, 0, none⟩ _ fun _ => rfl).set ⟨h2, 1, none⟩ _ fun _ => rfl
      have hf7 : Far (fun _ => False) w w7 := (hF0'.out.then hf9.out).trans hf67 fun q hq e => by have := hlo.out; omega
      have c0 : w7.cell? ⟨h2, 0, none⟩ = some (.int .i64 (s : Nat)) := hB7.cell 0
      have c1 : w7.cell? ⟨h2, 1, none⟩ = some (.slice vo m vc) := hB7.cell 1
      have ho7 := row_same hown'.out fun q hq hl => hf67.block q hl fun e => by
        obtain ⟨_, _, cs, hb2⟩ := own_type hown'.out hq
        rw [e] at hb2
        have := bk_type hb2 hB9.out
        revert this; decide
      have hDn : Dn (.agg #[.int .i64 (s : Nat), .slice vo m vc]) w.heap.size := fun _ _ _ _ e a ha => by
        cases e
        subst ha
        obtain ⟨h1, _⟩ := own_type hown'.out (k := a.block) rfl
        have := (hF0'.out.then hfd.out).size
        omega
      have hD : Dm w7 (.agg #[.int .i64 (s : Nat), .slice vo m vc]) s (tnM M) := Dm.own hs (fun r c h => (hw'.out c r h).symm) hr'.out (fun x => (hm'.out x).trans (hmA'.out x)) ho7 hm9'.out
      rw [← hw7]
      exact bodyPost_ret (v := .agg #[.int .i64 (s : Nat), .slice vo m vc]) (by simp [results, Tryd.f13, go_sem, c0, c1]) rfl ⟨_, rfl, hD, hDn, hf7⟩
theorem place_any (L : List (Nat × Nat)) (hr : L.Pairwise lexLt) (n : Nat) (hn : n = L.length) (hn2 : n ≤ 4194304) (ao : Option Addr) (cap : Nat) (c1 c2 : Nat) (w : World) (hP : PL w ao L) :
    Calls Tryd.prog 49 #[.slice ao n cap, .agg #[.int .i64 (c1 : Nat), .int .i64 (c2 : Nat)]] w fun e w' => ∃ low : Nat, e = .returned (.tuple #[.int .i64 (low : Nat), .bool (decide ((c1, c2) ∈ L))]) ∧ Far (fun _ => False) w w' := by
  obtain ⟨bb, hbb⟩ : ∃ b, decide ((c1, c2) ∈ L) = b := ⟨_, rfl⟩
  rw [hbb]
  have hbb' := Lib.hid hbb
  clear hbb
  obtain ⟨h3, hh3⟩ : ∃ h, h = w.heap.size := ⟨_, rfl⟩
  obtain ⟨W0, hW0⟩ : ∃ V, V = w.alloc (.cells #[.int .i64 (c1 : Nat), .int .i64 (c2 : Nat)] 61) := ⟨_, rfl⟩
  have hF0 : Far (fun _ => False) w W0 := hW0 ▸ (Far.refl _ w).alloc _
  have hB3 : Bk W0 h3 61 #[.int .i64 (c1 : Nat), .int .i64 (c2 : Nat)] := hW0 ▸ Bk.new hh3
  have HB := Lib.hid (show ∀ V, Far (fun _ => False) W0 V → (V.cell? ⟨h3, 0, none⟩ = some (.int .i64 (c1 : Nat)) ∧ V.cell? ⟨h3, 1, none⟩ = some (.int .i64 (c2 : Nat))) ∧ PL V ao L from fun V hf => ⟨⟨(hB3.far' hf id).cell 0, (hB3.far' hf id).cell 1⟩, hP.move (hF0.then hf)⟩)
  have hF0' := Lib.hid hF0
  have hW0' := Lib.hid hW0
  have hh3' := Lib.hid hh3
  have hn' := Lib.hid hn
  have hr' := Lib.hid hr
  clear hP hF0 hB3 hW0 hh3 hn hr
  go_enter Tryd.func49, Tryd.ntmps49
  go_upto_region 1 with fail
  rw [← hh3'.out, ← hW0'.out]
  go_wp2_with fail
  go_loopw [6, 7] (fun lv hv wr => ∃ lo hi : Nat, lo ≤ hi ∧ hi ≤ n ∧ lv = .int .i64 (lo : Nat) ∧ hv = .int .i64 (hi : Nat) ∧ (∀ (k : Nat) (x : Nat × Nat), k < lo → L[k]? = some x → lexLt x (c1, c2)) ∧ (∀ (k : Nat) (x : Nat × Nat), hi ≤ k → L[k]? = some x → ¬ lexLt x (c1, c2)) ∧ Far (fun _ => False) W0 wr) (fun lv hv _ => (intOf hv).toNat - (intOf lv).toNat)
  case atStart => exact ⟨0, n, Nat.zero_le _, Nat.le_refl _, rfl, rfl, fun k x h => absurd h (Nat.not_lt_zero _), fun k x h hx => by
    have h1 := (List.getElem?_eq_some_iff.1 hx).1
    have := hn'.out
    omega, Far.refl _ _⟩
  case round =>
    obtain ⟨lo, hi, hlh, hhn, rfl, rfl, hA, hB, hf⟩ := hrel
    obtain ⟨wd, hwd⟩ : ∃ wd, wd = wr := ⟨_, rfl⟩
    rw [← hwd] at hf ⊢
    clear hwd
    obtain ⟨⟨b0, b1⟩, hPd⟩ := HB.out wd hf
    by_cases hlt : lo < hi
    · have hli : (lo : Int) < (hi : Int) := by omega
      obtain ⟨t, ht⟩ : ∃ t, t = lo + hi := ⟨_, rfl⟩
      obtain ⟨mid, hmid⟩ : ∃ m, m = t / 2 := ⟨_, rfl⟩
      have hadd : (lo : Int) + (hi : Int) = (t : Int) := by omega
      have hwt : IntKind.i64.wrap (t : Int) = (t : Int) := by rw [IntKind.wrap_i64]; omega
      have hq : (t : Int) / 2 = (mid : Int) ∧ (t : Int).tdiv 2 = (mid : Int) := by
        have h := quo_two t
        rw [← hmid] at h
        exact h
      obtain ⟨hq1, hq2⟩ := hq
      have hwm := wrap_n (m := mid) (by omega)
      have hm1 : lo ≤ mid := by omega
      have hm2 : mid < hi := by omega
      have hmn : (mid : Int) < (n : Int) := by omega
      have hm0 : (0 : Int) ≤ (mid : Int) := by omega
      have hmb : (mid : Int) + 1 ≤ 9223372036854775807 := by omega
      obtain ⟨⟨x1, x2⟩, hx⟩ := atS (l := L) (k := mid) (by have := hn'.out; omega)
      obtain ⟨ga, oa, rfl, hga, pa0, pa1⟩ := hPd.at hx
      have BF := Lib.hid (fun w => before_any x1 x2 c1 c2 w)
      obtain ⟨q, hqq⟩ : ∃ q, decide (lexLt (x1, x2) (c1, c2)) = q := ⟨_, rfl⟩
      rw [hqq] at BF
      have HS := Lib.hid (show ∀ V, Far (fun _ => False) W0 V → V.cell? ⟨h3, 0, none⟩ = some (.int .i64 (c1 : Nat)) ∧ V.cell? ⟨h3, 1, none⟩ = some (.int .i64 (c2 : Nat)) ∧ V.cell? ⟨ga, oa + mid * 2, none⟩ = some (.int .i64 (x1 : Nat)) ∧ V.cell? ⟨ga, oa + mid * 2 + 1, none⟩ = some (.int .i64 (x2 : Nat)) from fun V hV => by
        obtain ⟨⟨q0, q1⟩, hQ⟩ := HB.out V hV
        obtain ⟨g, o, e, _, r0, r1⟩ := hQ.at hx
        cases e
        exact ⟨q0, q1, r0, r1⟩)
      have hx' := Lib.hid hx
      have hqq' := Lib.hid hqq
      have hA' := Lib.hid hA
      have hB' := Lib.hid hB
      have hfd := Lib.hid (hf.then (Far.refl (fun _ => False) wd).drew)
      clear hx hqq hA hB hf hPd ht hmid
      go_upto_region 4 with fail
      clear hq1 hq2
      go_cut [23] (fun tv wc => tv = .bool q ∧ Far (fun _ => False) W0 wc)
      case first =>
        go_region_held3 (fun V => V.cell? ⟨h3, 0, none⟩ = some (.int .i64 (c1 : Nat)) ∧ V.cell? ⟨h3, 1, none⟩ = some (.int .i64 (c2 : Nat)) ∧ V.cell? ⟨ga, oa + mid * 2, none⟩ = some (.int .i64 (x1 : Nat)) ∧ V.cell? ⟨ga, oa + mid * 2 + 1, none⟩ = some (.int .i64 (x2 : Nat))) (first | exact HS.out _ hf9'.out | exact HS.out _ hfd.out)
          ((go_at_call 85; (with_reducible refine (BF.out _).mono ?_); rintro e w9 ⟨rfl, hf9⟩; have hf9' := Lib.hid (hfd.out.then hf9); clear hf9))
        all_goals
          go_wp2_with fail
          go_meet
          exact ⟨rfl, hf9'.out⟩
      case rest =>
        obtain ⟨rfl, hfc⟩ := hcut
        have hfc' := Lib.hid hfc
        clear hfc b0 b1 pa0 pa1
        cases q with
        | true =>
          have hlx := of_decide_eq_true hqq'.out
          have hA2 := Lib.hid (show ∀ (k : Nat) (x : Nat × Nat), k < mid + 1 → L[k]? = some x → lexLt x (c1, c2) from fun k x hk hx => by
            by_cases e : k = mid
            · subst e
              rw [hx'.out] at hx
              cases hx
              exact hlx
            · exact lex_trans (rise_ltL hr'.out hx hx'.out (by omega)) hlx)
          go_wp2_with fail
          go_roundw
          case rel => exact ⟨mid + 1, hi, by omega, by omega, by go_num, rfl, hA2.out, hB'.out, hfc'.out⟩
          case measure => simp only [intOf]; omega
        | false =>
          have hlx := of_decide_eq_false hqq'.out
          have hB2 := Lib.hid (show ∀ (k : Nat) (x : Nat × Nat), mid ≤ k → L[k]? = some x → ¬ lexLt x (c1, c2) from fun k x hk hx => by
            by_cases e : k = mid
            · subst e
              rw [hx'.out] at hx
              cases hx
              exact hlx
            · exact fun h => hlx (lex_trans (rise_ltL hr'.out hx'.out hx (by omega)) h))
          go_wp2_with fail
          go_roundw
          case rel => exact ⟨lo, mid, by omega, by omega, rfl, rfl, hA'.out, hB2.out, hfc'.out⟩
          case measure => simp only [intOf]; omega
    · have e : lo = hi := by omega
      subst e
      have hli : ¬ (lo : Int) < (lo : Int) := by omega
      by_cases hln : lo < n
      · have hlni : (lo : Int) < (n : Int) := by omega
        have dl : decide ((lo : Int) < (n : Int)) = true := decide_eq_true hlni
        have hl0 : (0 : Int) ≤ (lo : Int) := by omega
        obtain ⟨⟨x1, x2⟩, hx⟩ := atS (l := L) (k := lo) (by have := hn'.out; omega)
        obtain ⟨ga, oa, rfl, hga, pa0, pa1⟩ := hPd.at hx
        have hnl := hB lo _ (Nat.le_refl _) hx
        have hin : decide ((c1, c2) ∈ L) = decide (x1 = c1 ∧ x2 = c2) := by
          rw [decide_eq_decide]
          constructor
          · intro h
            obtain ⟨k, hk⟩ := List.getElem?_of_mem h
            by_cases e1 : k < lo
            · exact absurd (hA k _ e1 hk) lex_irr
            · by_cases e2 : k = lo
              · subst e2
                rw [hx] at hk
                cases hk
                exact ⟨rfl, rfl⟩
              · exact absurd (rise_ltL hr'.out hx hk (by omega)) hnl
          · rintro ⟨rfl, rfl⟩
            exact List.mem_of_getElem? hx
        replace hin := hbb'.out.symm.trans hin
        have hf' := Lib.hid hf
        clear hx hnl hA hB hf hPd
        by_cases e1 : x1 = c1
        · subst e1
          by_cases e2 : x2 = c2
          · subst e2
            rw [decide_eq_true ⟨rfl, rfl⟩] at hin
            subst hin
            go_upto_region 7 with fail
            go_quiet (fail)
            obtain ⟨we, hwe⟩ : ∃ we, we = wd.drewN nq := ⟨_, rfl⟩
            have hfe := Lib.hid (show Far (fun _ => False) W0 we from hwe ▸ (hf'.out).drewN nq)
            rw [← hwe]
            clear hwe
            go_wp2_with fail
            (try rw [Exit.noGoto_ret])
            (try simp only [Exit.inBlock, Exit.then])
            refine bodyPost_ret (v := .tuple #[.int .i64 (lo : Nat), .bool true]) (by simp [results, Tryd.f49, go_sem]) rfl ?_
            exact ⟨⟨lo, rfl⟩, hF0'.out.then hfe.out⟩
          · rw [decide_eq_false (fun h => e2 h.2)] at hin
            subst hin
            have h2 : ¬ (x2 : Int) = (c2 : Int) := by omega
            go_upto_region 7 with fail
            go_quiet (fail)
            obtain ⟨we, hwe⟩ : ∃ we, we = wd.drewN nq := ⟨_, rfl⟩
            have hfe := Lib.hid (show Far (fun _ => False) W0 we from hwe ▸ (hf'.out).drewN nq)
            rw [← hwe]
            clear hwe
            go_wp2_with fail
            (try rw [Exit.noGoto_ret])
            (try simp only [Exit.inBlock, Exit.then])
            refine bodyPost_ret (v := .tuple #[.int .i64 (lo : Nat), .bool false]) (by simp [results, Tryd.f49, go_sem]) rfl ?_
            exact ⟨⟨lo, rfl⟩, hF0'.out.then hfe.out⟩
        · rw [decide_eq_false (fun h => e1 h.1)] at hin
          subst hin
          have h1 : ¬ (x1 : Int) = (c1 : Int) := by omega
          go_upto_region 7 with fail
          go_quiet (fail)
          obtain ⟨we, hwe⟩ : ∃ we, we = wd.drewN nq := ⟨_, rfl⟩
          have hfe := Lib.hid (show Far (fun _ => False) W0 we from hwe ▸ (hf'.out).drewN nq)
          rw [← hwe]
          clear hwe
          go_wp2_with fail
          (try rw [Exit.noGoto_ret])
          (try simp only [Exit.inBlock, Exit.then])
          refine bodyPost_ret (v := .tuple #[.int .i64 (lo : Nat), .bool false]) (by simp [results, Tryd.f49, go_sem]) rfl ?_
          exact ⟨⟨lo, rfl⟩, hF0'.out.then hfe.out⟩
      · have hlni : ¬ (lo : Int) < (n : Int) := by omega
        have dl : decide ((lo : Int) < (n : Int)) = false := decide_eq_false hlni
        have hin : decide ((c1, c2) ∈ L) = false := decide_eq_false fun h => by
          obtain ⟨k, hk⟩ := List.getElem?_of_mem h
          have h1 := (List.getElem?_eq_some_iff.1 hk).1
          have := hn'.out
          exact lex_irr (hA k _ (by omega) hk)
        replace hin := hbb'.out.symm.trans hin
        have hf' := Lib.hid hf
        subst hin
        clear hA hB hf hPd
        go_upto_region 7 with fail
        go_quiet (fail)
        obtain ⟨we, hwe⟩ : ∃ we, we = wd.drewN nq := ⟨_, rfl⟩
        have hfe := Lib.hid (show Far (fun _ => False) W0 we from hwe ▸ (hf'.out).drewN nq)
        rw [← hwe]
        clear hwe
        go_wp2_with fail
        (try rw [Exit.noGoto_ret])
        (try simp only [Exit.inBlock, Exit.then])
        refine bodyPost_ret (v := .tuple #[.int .i64 (lo : Nat), .bool false]) (by simp [results, Tryd.f49, go_sem]) rfl ?_
        exact ⟨⟨lo, rfl⟩, hF0'.out.then hfe.out⟩
end
end Go.Proofs.YtjolkhiggcmoiaaDoor
