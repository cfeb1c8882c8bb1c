/-
  The program's matrix and the document's, made; held against each other.
-/
import Derived.Test.YtkobbcmndneajaaDoorQDoc
import Derived.Test.YtkobbcmndneajaaDoorQHas
namespace Go.Proofs.YtkobbcmndneajaaDoor
open Go.RowKit Go.Shelf
set_option linter.unusedVariables false
set_option linter.unusedSimpArgs false
attribute [local go_sem] Oper.semAt_some
section
set_option maxHeartbeats 8000000
set_option maxRecDepth 100000
theorem made03_sep (s : Int) (ao : Option Addr) (n cap : Nat) (R C : Nat → Int) (hn : n ≤ cap) (hn2 : n ≤ 9223372036854775807) (w : World) (hC : Cls w ao n R C) :
    Calls Tryd.prog 26 #[.agg #[.int .i64 s, .slice ao n cap]] w fun e w' => ∃ v d, e = .returned (.tuple #[v, d]) ∧ ∃ F, HasF w' v F (ofS s n R C) (ofM s n R C) ∧ Dm w' d (ofS s n R C) (ofM s n R C) ∧ (∃ b, w.heap.size ≤ b ∧ Dn d b ∧ ∀ k, F k → w.heap.size ≤ k ∧ k < b) ∧ Far (fun _ => False) w w' := by
  obtain ⟨h1, hh1⟩ : ∃ h, h = w.heap.size := ⟨_, rfl⟩
  obtain ⟨h3, hh3⟩ : ∃ h, h = h1 + 1 := ⟨_, rfl⟩
  obtain ⟨W0, hW0⟩ : ∃ V, V = (w.alloc (.cells #[.int .i64 s, .slice ao n cap] 49)).alloc (.cells #[.int .i64 0, .slice none 0 0] 28) := ⟨_, rfl⟩
  have hF0 : Far (fun _ => False) w W0 := hW0 ▸ ((Far.refl _ w).alloc _).alloc _
  have hB1 : Bk W0 h1 49 #[.int .i64 s, .slice ao n cap] := hW0 ▸ (Bk.new hh1).alloc _
  have hB3 : Bk W0 h3 28 #[.int .i64 0, .slice none 0 0] := hW0 ▸ Bk.new (by rw [hh3, hh1]; simp)
  have b0 : W0.cell? ⟨h1, 0, none⟩ = some (.int .i64 s) := hB1.cell 0
  have b1 : W0.cell? ⟨h1, 1, none⟩ = some (.slice ao n cap) := hB1.cell 1
  have OF := qof_any s ao n cap R C hn2 W0 (hC.move hF0)
  have hC' := Lib.hid hC
  have e3 := Lib.hid hh3
  have hh1' := Lib.hid hh1
  have hW0' := Lib.hid hW0
  have hF0' := Lib.hid hF0
  have hB1' := Lib.hid hB1
  have hB3' := Lib.hid hB3
  have hWz := Lib.hid hB3.lt
  clear hC hh3 hh1 hW0 hF0 hB1 hB3
  go_enter Tryd.func26, Tryd.ntmps26
  go_upto_region 1 with fail
  rw [← hh1'.out, ← e3.out, ← hW0'.out]
  go_wp2_with fail
  refine OF.mono ?_
  rintro e w1 ⟨v, rfl, F, hX, hlo, hf1⟩
  have hX' := Lib.hid hX
  have hlo' := Lib.hid hlo
  have hlt' := Lib.hid hX.lt
  have hf1z := Lib.hid hf1.size
  have hf1' := Lib.hid (hF0'.out.then hf1)
  have hB11 := hB1'.out.far' hf1 id
  have b0 : w1.cell? ⟨h1, 0, none⟩ = some (.int .i64 s) := hB11.cell 0
  have b1 : w1.cell? ⟨h1, 1, none⟩ = some (.slice ao n cap) := hB11.cell 1
  have hB31 := Lib.hid (hB3'.out.far' hf1 id)
  have RO := rof_any s ao n cap R C hn hn2 w1 (hC'.out.move hf1'.out)
  clear OF hX hlo hf1 hB11 hB1' hB3'
  go_wp2_with fail
  refine RO.mono ?_
  rintro e w2 ⟨d, rfl, hD, hDn, hf2⟩
  obtain ⟨ao2, cap2, rfl, hP, hcap2, hs2, hw2⟩ := hD
  have hPn := Lib.hid (hDn _ _ _ _ rfl)
  clear hDn
  obtain ⟨m, hm⟩ : ∃ m, (cellsL (ofM s n R C) (ofS s n R C)).length = m := ⟨_, rfl⟩
  obtain ⟨s2, hs⟩ : ∃ t, ofS s n R C = t := ⟨_, rfl⟩
  rw [hs] at hm hP hs2 hw2 hcap2 hX' ⊢
  rw [hm] at hcap2 ⊢
  obtain ⟨h6, hh6⟩ : ∃ h, h = w2.heap.size := ⟨_, rfl⟩
  obtain ⟨w3, hw3⟩ : ∃ V, V = w2.alloc (.cells #[.int .i64 (s2 : Nat), .slice ao2 m cap2] 28) := ⟨_, rfl⟩
  have hf3 : Far (fun _ => False) w2 w3 := hw3 ▸ (Far.refl _ w2).alloc _
  have hB6 : Bk w3 h6 28 #[.int .i64 (s2 : Nat), .slice ao2 m cap2] := hw3 ▸ Bk.new hh6
  have c0 : w3.cell? ⟨h6, 0, none⟩ = some (.int .i64 (s2 : Nat)) := hB6.cell 0
  have c1 : w3.cell? ⟨h6, 1, none⟩ = some (.slice ao2 m cap2) := hB6.cell 1
  have hB33 := (hB31.out.far' hf2 id).far' hf3 id
  have fr0 := hB33.free 0
  have fr1 := hB33.free 1
  have d0 : w3.cell? ⟨h3, 0, none⟩ = some (.int .i64 0) := hB33.cell 0
  have d1 : w3.cell? ⟨h3, 1, none⟩ = some (.slice none 0 0) := hB33.cell 1
  have n36 : h3 ≠ h6 := by have := hB31.out.lt; have := hf2.size; omega
  have n63 : h6 ≠ h3 := fun e => n36 e.symm
  have hf23 := Lib.hid (hf2.then hf3)
  have hX3 := Lib.hid (hX'.out.still hf23.out)
  have hP3 := Lib.hid (hP.move hf3)
  have hB33' := Lib.hid hB33
  have hm' := Lib.hid hm
  have hs' := Lib.hid hs
  have hw2' := Lib.hid hw2
  have hh6' := Lib.hid hh6
  have hw3' := Lib.hid hw3
  have hs2' := Lib.hid hs2
  have hcap' := Lib.hid hcap2
  clear RO hf2 hf3 hP hm hw2 hB6 hB33 hB31 hX' b0 b1 hs hh6 hw3 hs2 hcap2
  go_upto_region 3 with fail
  rw [← hh6'.out, ← hw3'.out]
  go_region
  go_wp2_with fail
  (try simp only [Exit.inBlock, Exit.then])
  obtain ⟨w7, hw7⟩ : ∃ V, V = ((w3.setCell ⟨h3, 0, none⟩ (.int .i64 (s2 : Nat))).setCell ⟨h3, 1, none⟩ (.slice ao2 m cap2)).drew := ⟨_, rfl⟩
  have hB7 : Bk w7 h3 28 #[.int .i64 (s2 : Nat), .slice ao2 m cap2] := hw7 ▸ ((hB33'.out.set 0 _).set 1 _ : Bk ((w3.setCell ⟨h3, 0, none⟩ (.int .i64 (s2 : Nat))).setCell ⟨h3, 1, none⟩ (.slice ao2 m cap2)) h3 _ _)
  have hh1 := hh1'.out
  have hh3 := e3.out
  have hf37 : Far (fun q => q = h3) w3 w7 := hw7 ▸ (((Far.refl (fun q => q = h3) w3).set ⟨h3, 0, none⟩ _ fun _ => rfl).set ⟨h3, 1, none⟩ _ fun _ => rfl).drew
  have hf7 : Far (fun _ => False) w w7 := (hf1'.out.then hf23.out).trans hf37 fun q hq e => by omega
  have c0 : w7.cell? ⟨h3, 0, none⟩ = some (.int .i64 (s2 : Nat)) := hB7.cell 0
  have c1 : w7.cell? ⟨h3, 1, none⟩ = some (.slice ao2 m cap2) := hB7.cell 1
  rw [← hw7]
  have hX7 := hX3.out.kept hf37 fun q hq e => by
    rcases hX3.out with ⟨_, _, _, rfl⟩ | ⟨B, _, hM⟩
    · exact hq
    · have hbl := hlo'.out _ hq
      rw [e] at hbl
      have := hWz.out
      omega
  have hD7 : Dm w7 (.agg #[.int .i64 (s2 : Nat), .slice ao2 m cap2]) s2 (ofM s n R C) := ⟨ao2, cap2, by rw [hm'.out], hP3.out.kept hf37 (fun a ha hl e => by
    have h1 := hPn.out a ha
    have h2 := hWz.out
    have h3' := hf1z.out
    rw [e] at h1
    omega), by rw [hm'.out]; exact hcap'.out, hs2'.out, hw2'.out⟩
  have hDn7 : Dn (.agg #[.int .i64 (s2 : Nat), .slice ao2 m cap2]) w1.heap.size := fun _ _ _ _ e a ha => by
    cases e
    exact hPn.out a ha
  have hsz7 : w.heap.size ≤ w1.heap.size := Nat.le_trans hF0'.out.size hf1z.out
  exact bodyPost_ret (v := .tuple #[v, .agg #[.int .i64 (s2 : Nat), .slice ao2 m cap2]]) (by simp [results, Tryd.f26, go_sem, c0, c1]) rfl ⟨_, _, rfl, F, by rw [hs'.out]; exact hX7, by rw [hs'.out]; exact hD7, ⟨w1.heap.size, hsz7, hDn7, fun k hk => ⟨Nat.le_trans hF0'.out.size (hlo'.out k hk), hlt'.out k hk⟩⟩, hf7⟩
theorem made03_any (s : Int) (ao : Option Addr) (n cap : Nat) (R C : Nat → Int) (hn : n ≤ cap) (hn2 : n ≤ 9223372036854775807) (w : World) (hC : Cls w ao n R C) :
    Calls Tryd.prog 26 #[.agg #[.int .i64 s, .slice ao n cap]] w fun e w' => ∃ v d, e = .returned (.tuple #[v, d]) ∧ ∃ F, HasF w' v F (ofS s n R C) (ofM s n R C) ∧ Dm w' d (ofS s n R C) (ofM s n R C) ∧ Dn d w.heap.size ∧ (∀ k, F k → w.heap.size ≤ k) ∧ Far (fun _ => False) w w' := by
  refine (made03_sep s ao n cap R C hn hn2 w hC).mono ?_
  rintro e w' ⟨v, d, rfl, F, hX, hD, ⟨b, hb, hDn, hF⟩, hf⟩
  exact ⟨v, d, rfl, F, hX, hD, fun s ao n cap e a ha => Nat.le_trans hb (hDn s ao n cap e a ha), fun k hk => (hF k hk).1, hf⟩
structure SI03 (W0 : World) (h3 h4 h5 : Nat) (s n : Nat) (lv : Value) (k : Nat) (V : World) : Prop where
  b3 : Bk V h3 28 #[.int .i64 (s : Nat), lv]
  b4 : Bk V h4 4 #[.bool false]
  b5 : Bk V h5 3 #[.int .i64 (k : Nat)]
  far : Far (fun k => k = h5) W0 V
theorem SI03.go {W0 A B : World} {h3 h4 h5 s n k : Nat} {lv : Value} {row : Option Nat} (h : SI03 W0 h3 h4 h5 s n lv k A) (hg : A.grownBy B row) (hr : ∀ r, row = some r → W0.heap.size ≤ r ∧ ∃ o : Obj, A.heap[r]? = some o ∧ o.isCells = false) : SI03 W0 h3 h4 h5 s n lv k B :=
  ⟨bk_other h.b3 (grown_F hg) fun k e => (hr k e).2, bk_other h.b4 (grown_F hg) fun k e => (hr k e).2, bk_other h.b5 (grown_F hg) fun k e => (hr k e).2, far_own h.far hg hr⟩
theorem same03_any {w : World} {v d : Value} {F : Nat → Prop} {s : Nat} {M : Nat → Nat → Bool} (h : HasF w v F s M) (hd : Dm w d s M) (hT : Tab w) : Calls Tryd.prog 29 #[v, d] w fun e w' => e = .returned (.bool true) ∧ Far (fun _ => False) w w' := by
  obtain ⟨hp1, hp2, hcan⟩ := h.places
  have hrise := cellsK_rise M s s
  obtain ⟨ao, cap, rfl, hP, hcap, hs2, hwin⟩ := hd
  have hcnt := Dm.len (⟨ao, cap, rfl, hP, hcap, hs2, hwin⟩ : Dm w (.agg #[.int .i64 (s : Nat), .slice ao (cellsL M s).length cap]) s M)
  obtain ⟨a, rfl⟩ := h.ptr
  have hnil : decide (a = none) = decide (s = 0) := by
    rcases h with ⟨e1, e2, _⟩ | ⟨B, e1, hX⟩
    · cases e1; rw [e2]; rfl
    · cases e1
      have := hX.sides.1
      rw [decide_eq_false (by simp), decide_eq_false (by omega)]
  obtain ⟨L, hL⟩ : ∃ L, cellsL M s = L := ⟨_, rfl⟩
  rw [hL] at hP hcap hcan hcnt ⊢
  obtain ⟨n, hn⟩ : ∃ n, L.length = n := ⟨_, rfl⟩
  rw [hn] at hcap hcnt ⊢
  obtain ⟨h3, hh3⟩ : ∃ h, h = w.heap.size := ⟨_, rfl⟩
  obtain ⟨h4, hh4⟩ : ∃ h, h = h3 + 1 := ⟨_, rfl⟩
  obtain ⟨W1, hW1⟩ : ∃ V, V = (w.alloc (.cells #[.int .i64 (s : Nat), .slice ao n cap] 28)).alloc (.cells #[.bool false] 4) := ⟨_, rfl⟩
  have hF1 : Far (fun _ => False) w W1 := hW1 ▸ ((Far.refl _ w).alloc _).alloc _
  have hB3 : Bk W1 h3 28 #[.int .i64 (s : Nat), .slice ao n cap] := hW1 ▸ (Bk.new hh3).alloc _
  have hB4 : Bk W1 h4 4 #[.bool false] := hW1 ▸ Bk.new (by rw [hh4, hh3]; simp)
  have HK := Lib.hid (show ∀ w2, Far (fun _ => False) W1 w2 → w2.cell? ⟨h3, 0, none⟩ = some (.int .i64 (s : Nat)) ∧ w2.cell? ⟨h3, 1, none⟩ = some (.slice ao n cap) from fun w2 hf => ⟨(hB3.far' hf id).cell 0, (hB3.far' hf id).cell 1⟩)
  obtain ⟨r0, r1⟩ := HK.out W1 (Far.refl _ _)
  have SD := Lib.hid (fun (w2 : World) (hf : Far (fun _ => False) W1 w2) => ((h.still hF1).still hf).side_any)
  have LN := Lib.hid (fun (w2 : World) (hf : Far (fun _ => False) W1 w2) => ((h.still hF1).still hf).len_any)
  rw [hL, hn] at LN
  have CE := Lib.hid (fun (w2 : World) (hf : Far (fun _ => False) W1 w2) => ((h.still hF1).still hf).cells_any)
  have FN := fn_nil2
  have hn' := Lib.hid hn
  have hh3' := Lib.hid hh3
  have hh4' := Lib.hid hh4
  have hW1' := Lib.hid hW1
  have hF1' := Lib.hid hF1
  have hB3' := Lib.hid hB3
  have hB4' := Lib.hid hB4
  have hcan' := Lib.hid hcan
  have hP' := Lib.hid hP
  have hL' := Lib.hid hL
  have hrise' := Lib.hid hrise
  have hp1' := Lib.hid hp1
  have hp2' := Lib.hid hp2
  have hnil' := Lib.hid hnil
  clear h hn hh3 hh4 hW1 hF1 hB3 hB4 hcan hP hL hrise hp1 hp2 hnil hwin
  refine (callsIn_wide (n := 10)).1 (callsIn_of_wp_marks Tryd.func29 rfl trivial (wpIn_wide.2 ?_) rfl)
  simp only [Tryd.ntmps29, List.size_toArray, List.length_cons, List.length_nil, Nat.reduceAdd, Nat.reduceSub, Array.replicate_succ, Array.replicate_zero, List.push_toArray, List.append_toArray, List.nil_append, List.cons_append]
  go_upto_region 1 with fail
  rw [← hh3'.out, ← hh4'.out, ← hW1'.out]
  go_cut [29] from 9 to 29 (fun tv wc => tv = .bool false ∧ Far (fun _ => False) W1 wc)
  case first =>
    rcases a with _ | a
    · have hsi : ((s : Int) == 0) = true := by have := hnil'.out; simp at this; simp [← this]
      go_region_held3 (fun w' => w'.cell? ⟨h3, 0, none⟩ = some (.int .i64 (s : Nat)) ∧ w'.cell? ⟨h3, 1, none⟩ = some (.slice ao n cap)) (go_keep)
        (first
          | (go_at_call 47; refine (SD.out _ (Far.refl _ W1).drew).mono ?_; rintro e w8 ⟨rfl, e8⟩; replace e8 := e8.symm; subst e8)
          | (go_at_call 48; refine (LN.out _ (Far.refl _ W1).drew).mono ?_; rintro e w9 ⟨rfl, hf9⟩; obtain ⟨r0, r1⟩ := HK.out w9 (((Far.refl _ W1).drew).then hf9); have hf9' := Lib.hid (((Far.refl _ W1).drew).then hf9); clear hf9))
      all_goals
        go_wp2_with fail
        go_meet
        exact ⟨rfl, hf9'.out⟩
    · have hsi : ((s : Int) == 0) = false := by have := hnil'.out; simp at this; simp; omega
      go_region_held3 (fun w' => w'.cell? ⟨h3, 0, none⟩ = some (.int .i64 (s : Nat)) ∧ w'.cell? ⟨h3, 1, none⟩ = some (.slice ao n cap)) (go_keep)
        (first
          | (go_at_call 47; refine (SD.out _ (Far.refl _ W1).drew).mono ?_; rintro e w8 ⟨rfl, e8⟩; replace e8 := e8.symm; subst e8)
          | (go_at_call 48; refine (LN.out _ (Far.refl _ W1).drew).mono ?_; rintro e w9 ⟨rfl, hf9⟩; obtain ⟨r0, r1⟩ := HK.out w9 (((Far.refl _ W1).drew).then hf9); have hf9' := Lib.hid (((Far.refl _ W1).drew).then hf9); clear hf9))
      all_goals
        go_wp2_with fail
        go_meet
        exact ⟨rfl, hf9'.out⟩
  case rest =>
    obtain ⟨rfl, hfc⟩ := hcut
    obtain ⟨h5, hh5⟩ : ∃ h, h = wc.heap.size := ⟨_, rfl⟩
    obtain ⟨W2, hW2⟩ : ∃ V, V = wc.alloc (.cells #[.int .i64 0] 3) := ⟨_, rfl⟩
    have hf2 : Far (fun _ => False) W1 W2 := hW2 ▸ hfc.alloc _
    have b5 : Bk W2 h5 3 #[.int .i64 0] := hW2 ▸ Bk.new hh5
    have CE2 := CE.out W2 hf2
    have h5l := Lib.hid (show w.heap.size ≤ h5 ∧ h4 < h5 from ⟨by rw [hh5]; exact (hF1'.out.then hfc).size, by rw [hh5]; exact (hB4'.out.far' hfc id).lt⟩)
    have hf2' := Lib.hid hf2
    have b5' := Lib.hid b5
    have hh5' := Lib.hid hh5
    have hW2' := Lib.hid hW2
    clear hfc hf2 b5 hh5 hW2 CE SD LN r0 r1
    go_upto_region 4 with fail
    rw [← hh5'.out, ← hW2'.out]
    go_wp2_with fail
    refine CE2.mono ?_
    rintro e W0 ⟨hb, vb, rfl, hbX, hbO, hbz, hf7⟩
    have b30 := Lib.hid (hB3'.out.far' (hf2'.out.then hf7) id)
    have b40 := Lib.hid (hB4'.out.far' (hf2'.out.then hf7) id)
    have b50 := Lib.hid (b5'.out.far' hf7 id)
    have hfw0 := Lib.hid (hF1'.out.then (hf2'.out.then hf7))
    have hTw0 := Lib.hid (hT.still hfw0.out)
    have hPw0 := Lib.hid (hP'.out.move hfw0.out)
    have hI0 : SI03 W0 h3 h4 h5 s n (.slice ao n cap) 0 W0 := ⟨b30.out, b40.out, b50.out, Far.refl _ _⟩
    have hI0' := Lib.hid hI0
    have hbX' := Lib.hid hbX
    have hbO' := Lib.hid hbO
    clear CE2 hbX hbO hbz hf7 hI0
    go_wp2_with fail
    refine (wpIn_wide (n := 10)).1 ?_
    obtain ⟨aov, capv, rfl⟩ := q_form hbO'.out
    obtain ⟨Q, hQ⟩ : ∃ L, placesL M s = L := ⟨_, rfl⟩
    rw [hQ] at hbO' hbX' hcan' hp1' hp2'
    have hLf := hp1'.out
    have hLp := hp2'.out
    clear hQ FN
    refine name_frame fun T hTT => ?_
    refine range_ok (by decide) (by rw [← hTT]; rfl) (enters_of Tryd.func112 (by kernel_rfl) rfl) (qcells_seq (10 - 1) (by decide) hb W2.heap.size _ M Q hLf hLp W0 hbX'.out hbO'.out hTw0.out) KT.trans (fun V l o o' hl h ho => KT.put (B := W0.heap.size) V l o o' hTw0.out.lt hl h ho) (fun _ => rfl)
      (fun pre V => SI03 W0 h3 h4 h5 s n (.slice ao n cap) pre.length V) (fun _ _ _ => False) ?own ?ownx hI0'.out
      (fun pre y a' V => ((pre ++ [y]) <+: cellsF M Q.length Q) ∧ a' = { tmps := ((((T.setIfInBounds 35 (.int .i64 (y.1 : Nat))).setIfInBounds 36 (.int .i64 (y.2 : Nat))).setIfInBounds 7 (.int .i64 (y.1 : Nat))).setIfInBounds 8 (.int .i64 (y.2 : Nat))), defers := [] }) ?hAx ?assign ?body ?done ?stop
    case own => exact fun u A B row h hg hr => SI03.go h hg hr
    case ownx => exact fun c u A B row h _ _ => h
    case hAx => exact fun pre y a' u A B row h _ _ => h
    case stop => exact fun D c pre V _ _ h _ => h.elim
    case assign =>
      intro l pre y V KK hI hok hK
      have hK' := hK _ V (KeepsFrom.refl _ _) (KT.refl _) hI ⟨hok, rfl⟩
      subst hTT
      simp only [encP, List.zip_toArray, List.zip_cons_cons, List.zip_nil_right, List.foldl_toArray', List.foldl_cons, List.foldl_nil, List.setIfInBounds_toArray, List.set_cons_succ, List.set_cons_zero] at hK' ⊢
      gi_wp2
      exact hK'
    case body =>
      rintro l pre y a' V hl hI ⟨hpre, rfl⟩
      rw [hcan'.out] at hpre
      obtain ⟨y1, y2⟩ := y
      have hplen := hpre.length_le
      rw [List.length_append, List.length_singleton, hn'.out] at hplen
      have hat : L[pre.length]? = some (y1, y2) := by
        obtain ⟨t, rfl⟩ := hpre
        rw [List.append_assoc, List.getElem?_append_right (Nat.le_refl _), Nat.sub_self]; rfl
      obtain ⟨g, off, rfl, hg, c0, c1⟩ := (hPw0.out.kept hI.far fun a e h e2 => by
        have hh := h5l.out
        obtain ⟨g9, o9, e9, hg9, _⟩ := hP'.out (by rw [hn'.out]; omega)
        rw [e] at e9; cases e9
        have : g9 = h5 := e2
        omega).at hat
      obtain ⟨k, hk⟩ : ∃ k, k = pre.length := ⟨_, rfl⟩
      rw [← hk] at c0 c1 hplen hI
      have c5 : V.cell? ⟨h5, 0, none⟩ = some (.int .i64 (k : Nat)) := hI.b5.cell 0
      have c31 : V.cell? ⟨h3, 1, none⟩ = some (.slice (some ⟨g, off, none⟩) n cap) := hI.b3.cell 1
      have f5 := hI.b5.free 0
      have hge : ¬ (n : Int) ≤ (k : Int) := by omega
      have hki : (k : Int) < (n : Int) := by omega
      have hkb : (k : Int) + 1 ≤ 9223372036854775807 := by omega
      have hI' := Lib.hid hI
      have hk' := Lib.hid hk
      subst hTT
      simp only [List.setIfInBounds_toArray, List.set_cons_succ, List.set_cons_zero]
      clear hpre hI hk hat
      gi_wp2
      have hI := hI'.out
      have hh := h5l.out
      have hfa : Far (fun q => q = h5) V (V.setCell ⟨h5, 0, none⟩ (.int .i64 ((k : Int) + 1))) := (Far.refl _ V).set _ _ fun _ => rfl
      have hzV := hI.far.size
      have hTl := hT.lt
      have e4 := hh4'.out
      have e3 := hh3'.out
      refine ⟨keeps_far hfa fun q hq => by subst hq; exact ⟨_, _, hI.b5⟩, KT.ofFar hfa (by have := hTw0.out.lt; omega) fun q hq => ?_, ?_⟩
      · subst hq
        refine ⟨by omega, fun cs t hb => ?_⟩
        have := bk_type hb hI.b5
        subst this
        decide
      · refine ⟨hI.b3.far' hfa (by omega), hI.b4.far' hfa (by omega), ?_, hI.far.trans hfa fun _ _ h => h⟩
        have := hI.b5.set 0 (.int .i64 ((k : Int) + 1))
        rw [List.length_append, List.length_singleton, ← hk'.out, Int.natCast_add]
        exact this
    case done =>
      rintro D xs V hD rfl hI hK
      rw [hcan'.out, hn'.out] at hI
      have c5 : V.cell? ⟨h5, 0, none⟩ = some (.int .i64 (n : Nat)) := hI.b5.cell 0
      have c31 : V.cell? ⟨h3, 1, none⟩ = some (.slice ao n cap) := hI.b3.cell 1
      have g0 : V.cell? ⟨h4, 0, none⟩ = some (.bool false) := hI.b4.cell 0
      have g1 := hI.b4.free 0
      have hD4 : D ≠ h4 := fun e => by subst e; have := b40.out.lt; omega
      have hKS := Lib.hid ((heap_setCell_other V ⟨h4, 0, none⟩ D (.bool true) hD4).trans hK)
      have R1 := Lib.hid (show Bk ((V.setCell ⟨h4, 0, none⟩ (.bool true)).putObj D (.deferred none)) h4 4 #[.bool true] from (World.putObj_heap_other (fun e => hD4 e.symm)).trans (hI.b4.set 0 (.bool true)))
      have hZ := Lib.hid (show Far (fun k => w.heap.size ≤ k) w ((V.setCell ⟨h4, 0, none⟩ (.bool true)).putObj D (.deferred none)) from
        (((hfw0.out.mono (G := fun k => w.heap.size ≤ k) fun _ _ h => h.elim).trans (G := fun k => w.heap.size ≤ k) (hI.far.mono fun k _ e => by have := h5l.out; omega) fun _ _ h => h).set ⟨h4, 0, none⟩ (.bool true) (fun _ => by have := hh4'.out; have := hh3'.out; show w.heap.size ≤ h4; omega)).grown (grownBy_putObj' _ D (.deferred none)) (fun k hk e => by cases e; have := hfw0.out.size; omega))
      subst hTT
      clear hI hK
      go_wp2_with fail
      refine ⟨by simp, .inl ⟨D, _, rfl, run_takeDeferred hKS.out, ?_⟩⟩
      refine ⟨.bool true, ?_, rfl, hZ.out.mono fun k hk h => by omega⟩
      have hc := R1.out.cell 0
      simp [results, Tryd.f29, go_sem, hc]
end
end Go.Proofs.YtkobbcmndneajaaDoor
