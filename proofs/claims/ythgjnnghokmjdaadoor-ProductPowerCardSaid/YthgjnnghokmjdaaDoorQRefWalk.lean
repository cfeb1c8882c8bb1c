/-
  The document's Walk.
-/
import Derived.Test.YthgjnnghokmjdaaDoorQTimes2
import Derived.Test.YthgjnnghokmjdaaDoorQPWalk
namespace Go.Proofs.YthgjnnghokmjdaaDoor
open Go.RowKit Go.Shelf
set_option linter.unusedVariables false
set_option linter.unusedSimpArgs false
/-- What the places told so far lead to. -/
def leadS (L : List (Nat × Nat)) (S : Nat → Bool) (c : Nat) : Bool := L.any fun x => S x.1 && decide (x.2 = c)
theorem leadS_none {L : List (Nat × Nat)} {S : Nat → Bool} {k i j : Nat} (hk : L[k]? = some (i, j)) (h : S i = false) (c : Nat) : leadS (L.take (k + 1)) S c = leadS (L.take k) S c := by
  unfold leadS
  rw [List.take_add_one, hk]
  simp [h]
theorem leadS_put {L : List (Nat × Nat)} {S : Nat → Bool} {k i j : Nat} (hk : L[k]? = some (i, j)) (h : S i = true) (c : Nat) : leadS (L.take (k + 1)) S c = setB (leadS (L.take k) S) j c := by
  unfold leadS setB
  rw [List.take_add_one, hk]
  by_cases e : c = j
  · subst e; simp [h]
  · have e' : ¬ j = c := fun x => e x.symm
    simp [e, e']
theorem leadS_all {s n : Nat} {A : Nat → Nat → Bool} {S : Nat → Bool} (hw : ∀ r c, A r c = true → r < s ∧ c < s) (c : Nat) : leadS (cellsL A s) S c = stepS A s S c := by
  rw [Bool.eq_iff_iff, stepS_iff hw]
  unfold leadS
  rw [List.any_eq_true]
  constructor
  · rintro ⟨x, hx, h⟩
    have h1 := (mem_cellsL hw).1 hx
    simp only [Bool.and_eq_true, decide_eq_true_eq] at h
    exact ⟨x.1, h.1, by rw [← h.2]; exact h1⟩
  · rintro ⟨i, h1, h2⟩
    exact ⟨(i, c), (mem_cellsL hw).2 h2, by simp [h1]⟩
theorem setL_step (S : Nat → Bool) (j : Nat) : setL S (j + 1) = if S j = true then setL S j ++ [j] else setL S j := by
  unfold setL
  rw [List.range_succ, List.filter_append]
  by_cases h : S j = true <;> simp [h]
theorem BRow.farK {w w' : World} {g n : Nat} {f : Nat → Bool} (h : BRow w g n f) (hf : Far (fun _ => False) w w') : BRow w' g n f := Bk.far' (F := fun _ => False) h hf id
section
set_option maxHeartbeats 16000000
set_option maxRecDepth 100000
theorem rwalk_yes {w : World} {va : Value} {s : Nat} {A : Nat → Nat → Bool} (ha : Dm w va s A) (start n : Nat) (hst : start < s) (hn : n ≤ 1024) : Calls Tryd.prog 43 #[va, .int .i64 (start : Nat), .int .i64 (n : Nat)] w fun e w' => ∃ v, e = .returned (.tuple #[v, .int .i64 0]) ∧ w'.ownsRow w.heap.size 3 1 v (setL (walkS A s start n) s).length (ncells (setL (walkS A s start n) s)) ∧ Far (fun _ => False) w w' := by
  have hlen := ha.len
  obtain ⟨ao, cap, rfl, hP, hcap, hs, hwa⟩ := ha
  obtain ⟨L, hL⟩ : ∃ L, cellsL A s = L := ⟨_, rfl⟩
  obtain ⟨na, hna⟩ : ∃ n, L.length = n := ⟨_, rfl⟩
  rw [hL] at hP hcap hlen ⊢
  rw [hna] at hcap hlen ⊢
  obtain ⟨h3, hh3⟩ : ∃ h, h = w.heap.size := ⟨_, rfl⟩
  obtain ⟨W0, hW0⟩ : ∃ V, V = w.alloc (.cells #[.int .i64 (s : Nat), .slice ao na cap] 28) := ⟨_, rfl⟩
  have hF0 : Far (fun _ => False) w W0 := hW0 ▸ (Far.refl _ w).alloc _
  have hB3 : Bk W0 h3 28 #[.int .i64 (s : Nat), .slice ao na cap] := hW0 ▸ Bk.new hh3
  have hs0 : ((s : Int) == 0) = false := by simp; omega
  have hnn : ¬ (n : Int) < 0 := by omega
  have hng : ¬ (1024 : Int) < (n : Int) := by omega
  have hsi : (start : Int) < (s : Int) := by omega
  have RI := fun W => rin_any s (.slice ao na cap) (start : Int) W
  rw [decide_eq_true (show (0 : Int) ≤ (start : Int) by omega), decide_eq_true hsi] at RI
  have b0 : W0.cell? ⟨h3, 0, none⟩ = some (.int .i64 (s : Nat)) := hB3.cell 0
  have b1 : W0.cell? ⟨h3, 1, none⟩ = some (.slice ao na cap) := hB3.cell 1
  have hP' := Lib.hid (hP.move hF0)
  have hB3' := Lib.hid hB3
  have hF0' := Lib.hid hF0
  have hh3' := Lib.hid hh3
  have hW0' := Lib.hid hW0
  have hwa' := Lib.hid hwa
  have hL' := Lib.hid hL
  have hna' := Lib.hid hna
  have hLw := Lib.hid (show ∀ k i j, L[k]? = some (i, j) → i < s ∧ j < s from fun k i j h => hwa _ _ ((mem_cellsL hwa).1 (by rw [hL]; exact List.mem_of_getElem? h)))
  clear hh3 hW0 hF0 hB3 hP hwa hL hna
  go_enter Tryd.func43, Tryd.ntmps43
  go_upto_region 1 with fail
  rw [← hh3'.out, ← hW0'.out]
  go_upto_region 5 with (first | (refine (RI _).mono ?_; rintro e w1 ⟨rfl, hf1⟩; have hf1' := Lib.hid hf1; clear hf1))
  have hB31 := Lib.hid (hB3'.out.far' hf1'.out id)
  have hPa := Lib.hid (hP'.out.move hf1'.out)
  obtain ⟨W1, hW1⟩ : ∃ V, V = w1 := ⟨_, rfl⟩
  rw [← hW1] at hf1' hB31 hPa ⊢
  clear hW1 b0 b1
  have hf01 := Lib.hid (hF0'.out.then hf1'.out)
  obtain ⟨gm, hgm⟩ : ∃ g, g = W1.heap.size := ⟨_, rfl⟩
  obtain ⟨Wm, hWm⟩ : ∃ V, V = W1.alloc (.cells (bcells s fun _ => false) 4) := ⟨_, rfl⟩
  have hMK := make_bools s (by omega) W1
  rw [← hgm, ← hWm] at hMK
  have hfm : Far (fun _ => False) W1 Wm := hWm ▸ (Far.refl _ W1).alloc _
  have hBm : BRow Wm gm s (fun _ => false) := hWm ▸ Bk.new hgm
  have b0 : W1.cell? ⟨h3, 0, none⟩ = some (.int .i64 (s : Nat)) := hB31.out.cell 0
  have t0 : Wm.cell? ⟨gm, start, none⟩ = some (.bool false) := hBm.get start hst
  have t1 : Wm.frozen? ⟨gm, start, none⟩ = false := hBm.free start
  have hB0 := Lib.hid ((hBm.put start).congr (h := walkS A s start 0) fun j _ => by show setB (fun _ => false) start j = decide (j = start); unfold setB; by_cases e : j = start <;> simp [e])
  have hfs := Lib.hid (hfm.set ⟨gm, start, none⟩ (.bool true) fun hl => absurd (show W1.heap.size ≤ gm by omega) (by show ¬ _ ≤ gm; exact Nat.not_le.2 hl))
  have hgW := Lib.hid (show W1.heap.size ≤ gm by omega)
  clear hgm hWm hfm hBm
  have HX := Lib.hid (show ∀ X, Far (fun _ => False) W1 X → X.cell? ⟨h3, 0, none⟩ = some (.int .i64 (s : Nat)) ∧ X.cell? ⟨h3, 1, none⟩ = some (.slice ao na cap) ∧ PL X ao L from fun X hX => ⟨(hB31.out.far' hX id).cell 0, (hB31.out.far' hX id).cell 1, hPa.out.move hX⟩)
  go_wp2_with fail
  clear b0 t0 t1 hMK
  go_loopw [8, 9] (fun av iv wr => ∃ g t : Nat, t ≤ n ∧ av = .slice (some ⟨g, 0, none⟩) s s ∧ iv = .int .i64 (t : Nat) ∧ W1.heap.size ≤ g ∧ BRow wr g s (walkS A s start t) ∧ Far (fun _ => False) W1 wr) (fun _ iv _ => n - (intOf iv).toNat)
  case atStart => exact ⟨gm, 0, Nat.zero_le _, rfl, rfl, hgW.out, hB0.out, hfs.out⟩
  case round =>
    clear hB0 hfs hgW
    obtain ⟨g, t, ht, rfl, rfl, hgb, hB, hf⟩ := hrel
    obtain ⟨wo, hwo⟩ : ∃ wo, wo = wr := ⟨_, rfl⟩
    rw [← hwo] at hB hf ⊢
    clear hwo
    obtain ⟨S, hS⟩ : ∃ S, walkS A s start t = S := ⟨_, rfl⟩
    rw [hS] at hB
    obtain ⟨b0, b1, hPo⟩ := HX.out wo hf
    by_cases hlt : t < n
    · have hti : (t : Int) < (n : Int) := by omega
      obtain ⟨gn, hgn⟩ : ∃ g, g = wo.heap.size := ⟨_, rfl⟩
      obtain ⟨Wn, hWn⟩ : ∃ V, V = wo.alloc (.cells (bcells s fun _ => false) 4) := ⟨_, rfl⟩
      have hMK := make_bools s (by omega) wo
      rw [← hgn, ← hWn] at hMK
      have hfn : Far (fun _ => False) wo Wn := hWn ▸ (Far.refl _ wo).alloc _
      have hBn := Lib.hid (show BRow Wn gn s (fun _ => false) from hWn ▸ Bk.new hgn)
      have hBg := Lib.hid (hB.farK hfn)
      have hfW := Lib.hid (hf.then hfn)
      have hgg : g < gn := by rw [hgn]; exact hB.lt
      have hgnW := Lib.hid (show W1.heap.size ≤ gn by rw [hgn]; exact hf.size)
      have hS' := Lib.hid hS
      clear hS hB hf hPo hWn hfn hgn
      go_wp2_with fail
      clear b0 b1 hMK
      go_loopw [11] (fun kv wr => ∃ k : Nat, k ≤ na ∧ kv = .int .i64 (k : Nat) ∧ BRow wr gn s (leadS (L.take k) S) ∧ BRow wr g s S ∧ Far (fun _ => False) W1 wr) (fun kv _ => na - (intOf kv).toNat)
      case atStart => exact ⟨0, Nat.zero_le _, rfl, hBn.out.congr fun j _ => by unfold leadS; simp, hBg.out, hfW.out⟩
      case round =>
        clear hBn hBg hfW
        obtain ⟨k, hk, rfl, hBn, hBg, hf⟩ := hrel
        obtain ⟨wk, hwk⟩ : ∃ wo, wo = wr := ⟨_, rfl⟩
        rw [← hwk] at hBn hBg hf ⊢
        clear hwk
        obtain ⟨b0, b1, hPk⟩ := HX.out wk hf
        by_cases hkn : k < na
        · have hki : (k : Int) < (na : Int) := by omega
          obtain ⟨x, hx⟩ : ∃ x, L[k]? = some x := ⟨L[k]'(by rw [hna'.out]; exact hkn), List.getElem?_eq_getElem _⟩
          obtain ⟨i, j⟩ := x
          obtain ⟨his, hjs⟩ := hLw.out k i j hx
          have hii : (i : Int) < (s : Int) := by omega
          have hji : (j : Int) < (s : Int) := by omega
          obtain ⟨g1, o1, rfl, hg1, a0, a1⟩ := hPk.at hx
          have t0 : wk.cell? ⟨g, i, none⟩ = some (.bool (S i)) := hBg.get i his
          have hkb : (k : Int) + 1 ≤ 9223372036854775807 := by omega
          cases hb : S i with
          | false =>
            rw [hb] at t0
            have hBn' := Lib.hid (hBn.congr fun c _ => (leadS_none hx hb c).symm)
            have hBg' := Lib.hid hBg
            have hf' := Lib.hid hf
            clear hb hx hBn hBg hf hPk
            go_wp2_with fail
            go_roundw
            case rel => exact ⟨k + 1, by omega, by go_num, hBn'.out, hBg'.out, hf'.out⟩
            case measure => simp only [intOf]; omega
          | true =>
            rw [hb] at t0
            have u0 : wk.cell? ⟨gn, j, none⟩ = some (.bool (leadS (L.take k) S j)) := hBn.get j hjs
            have u1 : wk.frozen? ⟨gn, j, none⟩ = false := hBn.free j
            have hBn' := Lib.hid ((hBn.put j).congr fun c _ => (leadS_put hx hb c).symm)
            have hBg' := Lib.hid (show BRow (wk.setCell ⟨gn, j, none⟩ (.bool true)) g s S from Bk.far hBg (p := ⟨gn, j, none⟩) (by show g ≠ gn; omega) _)
            have hf' := Lib.hid (hf.set ⟨gn, j, none⟩ (.bool true) fun hl => absurd hgnW.out (by show ¬ _ ≤ gn; exact Nat.not_le.2 hl))
            clear hb hx hBn hBg hf hPk
            go_wp2_with fail
            go_roundw
            case rel => exact ⟨k + 1, by omega, by go_num, hBn'.out, hBg'.out, hf'.out⟩
            case measure => simp only [intOf]; omega
        · have hke : k = na := by omega
          have hBn' := Lib.hid (hBn.congr (h := walkS A s start (t + 1)) fun c _ => by
            rw [hke, ← hna'.out, List.take_length, ← hL'.out, leadS_all (n := n) hwa'.out, ← hS'.out]; rfl)
          have hf' := Lib.hid hf
          have htb : (t : Int) + 1 ≤ 9223372036854775807 := by omega
          clear hke hBn hBg hf hPk
          go_wp2_with fail
          go_roundw
          case rel => exact ⟨gn, t + 1, by omega, rfl, by go_num, hgnW.out, hBn'.out, hf'.out⟩
          case measure => simp only [intOf]; omega
    · have hte : t = n := by omega
      rw [hte] at hS
      have hSn := Lib.hid hS
      have hB' := Lib.hid hB
      have hf' := Lib.hid hf
      clear hS hB hf hPo hte b1
      go_wp2_with fail
      clear b0
      go_loopw [12, 13] (fun lv jv wr => ∃ j : Nat, j ≤ s ∧ jv = .int .i64 (j : Nat) ∧ wr.ownsRow W1.heap.size 3 1 lv (setL S j).length (ncells (setL S j)) ∧ BRow wr g s S ∧ Far (fun _ => False) W1 wr) (fun _ jv _ => s - (intOf jv).toNat)
      case atStart => exact ⟨0, Nat.zero_le _, rfl, World.ownsRow_nil _ _ _ _, hB'.out, hf'.out⟩
      case round =>
        clear hB' hf'
        obtain ⟨j, hj, rfl, ho, hB, hf⟩ := hrel
        obtain ⟨wk, hwk⟩ : ∃ wo, wo = wr := ⟨_, rfl⟩
        rw [← hwk] at ho hB hf ⊢
        clear hwk
        obtain ⟨b0, b1, hPk⟩ := HX.out wk hf
        clear b1 hPk
        by_cases hjs : j < s
        · have hji : (j : Int) < (s : Int) := by omega
          have hjb : (j : Int) + 1 ≤ 9223372036854775807 := by omega
          have t0 : wk.cell? ⟨g, j, none⟩ = some (.bool (S j)) := hB.get j hjs
          have hst := setL_step S j
          cases hb : S j with
          | false =>
            rw [hb] at t0
            rw [if_neg (by rw [hb]; exact Bool.false_ne_true)] at hst
            rw [← hst] at ho
            have ho' := Lib.hid ho
            have hB' := Lib.hid hB
            have hf' := Lib.hid hf
            clear hb hst ho hB hf
            go_wp2_with fail
            go_roundw
            case rel => exact ⟨j + 1, by omega, by go_num, ho'.out, hB'.out, hf'.out⟩
            case measure => simp only [intOf]; omega
          | true =>
            rw [hb] at t0
            rw [if_pos hb] at hst
            have hle := setL_le S j
            obtain ⟨O, hO⟩ : ∃ O, setL S j = O := ⟨_, rfl⟩
            rw [hO] at hst ho hle
            obtain ⟨m, hm⟩ : ∃ n, n = O.length := ⟨_, rfl⟩
            rw [← hm] at ho hle
            obtain ⟨lo, lc, rfl⟩ := q_form ho
            obtain ⟨pi, pi1, pz, pi4, pi5⟩ := info_parts int_info
            have C1 := Lib.hid (World.ownsRow.alloc ho (.cells #[.int .i64 (j : Nat)] 3))
            have C7 := Lib.hid (World.news_of_block (w := wk.alloc (.cells #[.int .i64 (j : Nat)] 3)) (cs := #[.int .i64 (j : Nat)]) (t := 3) (fr := (0, 0)) (heap_alloc_new wk _))
            have C3 := Lib.hid (show ∀ u ∈ [(.int .i64 (j : Nat) : Value)], u.oneCell' = true by simp [Value.oneCell'])
            have C4 : m + 1 ≤ maxLen := by unfold maxLen; omega
            have C5 : (m + 1) * 8 ≤ 140737488355328 := by omega
            have C6 : W1.heap.size ≤ (wk.alloc (.cells #[.int .i64 (j : Nat)] 3)).heap.size := by have := hf.size; simp; omega
            have HN := Lib.hid (show ∀ (v2 : Value) (w6 : World), w6.ownsRow W1.heap.size 3 1 v2 (m + 1) (ncells O ++ [.int .i64 (j : Nat)]) → (wk.alloc (.cells #[.int .i64 (j : Nat)] 3)).grownBy w6 (Value.slice lo m lc).ownBlock →
                w6.ownsRow W1.heap.size 3 1 v2 (setL S (j + 1)).length (ncells (setL S (j + 1))) ∧ BRow w6 g s S ∧ Far (fun _ => False) W1 w6 from fun v2 w6 ho6 hg6 => by
              refine ⟨?_, ?_, ?_⟩
              · rw [hst, List.length_append, List.length_singleton, ← hm, show ncells (O ++ [j]) = ncells O ++ [.int .i64 (j : Nat)] by simp [ncells]]
                exact ho6
              · refine Bk.far' (hB.farK ((Far.refl (fun _ => False) wk).alloc (.cells #[.int .i64 (j : Nat)] 3))) (grown_F hg6) fun e => ?_
                obtain ⟨_, _, cs, hb2⟩ := own_type ho e
                have := bk_type hb2 hB
                revert this; decide
              · exact (hf.alloc _).trans (grown_F hg6) fun q hq e => by
                  have := (own_type ho e).1
                  omega)
            clear hb hst ho hB hf hO hm
            go_wp2_with (at_builtin; refine wpList_append_own _ rfl _ _ 67 rfl W1.heap.size 3 pi (.int .i64 0) 1 8 Tryd.underlying67 pi1 pz pi4 pi5 rfl (by decide) (.slice lo m lc) m _ rfl C1.out ⟨wk.heap.size, 0, none⟩ 1 1 [.int .i64 (j : Nat)] rfl rfl C7.out C3.out C4 C5 C6 ?_; intro v2 w6 ho6 hg6 hn6; have hk6 := Lib.hid (HN.out _ _ ho6 hg6); clear ho6 hg6 hn6 HN)
            go_roundw
            case rel => exact ⟨j + 1, by omega, by go_num, hk6.out.1, hk6.out.2.1, hk6.out.2.2⟩
            case measure => simp only [intOf]; omega
        · have hje : j = s := by omega
          rw [hje] at ho
          obtain ⟨lo, lc, rfl⟩ := q_form ho
          have ho' := Lib.hid ho
          have hf' := Lib.hid hf
          clear ho hB hf hje
          go_wp2_with fail
          (try simp only [Exit.inBlock, Exit.then])
          refine bodyPost_ret (v := .tuple #[.slice lo (setL S s).length lc, .int .i64 0]) (by simp [results, Tryd.f43, go_sem]) rfl ⟨_, rfl, by rw [hSn.out]; exact own_base hf01.out.size ho'.out, hf01.out.then hf'.out⟩
end
end Go.Proofs.YthgjnnghokmjdaaDoor
