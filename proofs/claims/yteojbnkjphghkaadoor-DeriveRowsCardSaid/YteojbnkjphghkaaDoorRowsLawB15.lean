/-
  DeriveRows walked: the main way.
-/
import Derived.Test.YteojbnkjphghkaaDoorRowsLawA15
namespace Go.Proofs.YteojbnkjphghkaaDoor
open Go.RowKit
set_option linter.unusedVariables false
set_option linter.unusedSimpArgs false
section
set_option maxHeartbeats 8000000
set_option maxRecDepth 100000
theorem rows_main (Sn : Nat) (pv av bv : Value) (T : List Tr) (n : Nat) (A B : List Int) (w : World) (hP : Prods w pv T) (hA : WdM w av A) (hB : WdM w bv B) (hs : T.length * 32 ≤ 140737488351232) (hs2 : ∀ t ∈ T, t.2.2.length * 16 ≤ 140737488351232) (hal : A.length * 8 ≤ 140737488351232) (hbl : B.length * 8 ≤ 140737488351232) (hT : Tab w) (hok : WeakP (Sn : Int) T) (hcode : codeL (Sn : Int) T [] ([] : List Int).length = 0) (hn : Nat) (x y : Int) (tv : Value) (ht : T[n]? = some ((hn : Int), tv, [((false, x) : Sy), (false, y)])) (hhd : hn < Sn) (hx : 0 ≤ x ∧ x < Sn) (hy : 0 ≤ y ∧ y < Sn) (hlen : A.length + B.length ≤ 64) :
    Calls Tryd.prog 6 #[.agg #[.int .i64 (Sn : Int), pv], .int .i64 (n : Int), av, bv] w fun e w' => e = .returned (.bool true) ∧ Below w.heap.size w w' := by
  have hcode := Lib.hid hcode
  have hok' := Lib.hid hok
  have ht' := Lib.hid ht
  have hnT : n < T.length := (List.getElem?_eq_some_iff.1 ht).1
  clear hok ht
  obtain ⟨h, hh⟩ : ∃ h, h = w.heap.size := ⟨_, rfl⟩
  obtain ⟨ao, pc, rfl⟩ := Src.form hP.1
  obtain ⟨xo, xc, rfl⟩ := Src.form hA
  obtain ⟨yo, yc, rfl⟩ := Src.form hB
  obtain ⟨w1, hw1⟩ : ∃ w1, w1 = w.alloc (.cells #[.int .i64 (Sn : Int), .slice ao T.length pc] 24) := ⟨_, rfl⟩
  have hX : Bk w1 h 24 #[.int .i64 (Sn : Int), .slice ao T.length pc] := hw1 ▸ Bk.new hh
  have hF : Far (fun _ => False) w w1 := hw1 ▸ (Far.refl _ w).alloc _
  have hn1 : T.length ≤ 4398046510976 := by omega
  have hn2 : ∀ t ∈ T, t.2.2.length ≤ maxLen := fun t ht => by have := hs2 t ht; unfold maxLen; omega
  have hF0 := Lib.hid hF
  have hT' := Lib.hid (fun w' (hf : Far (fun _ => False) w1 w') => hT.stays ((hF.then hf).below (Nat.le_refl _) fun _ _ h => h))
  have hP' := Lib.hid (hP.move hF)
  have hA' := Lib.hid (hA.move hF)
  have hB' := Lib.hid (hB.move hF)
  have hc' := Lib.hid (fun w' (hf : Far (fun _ => False) w1 w') => (⟨(hX.far' hf id).cell 0, (hX.far' hf id).cell 1⟩ : w'.cell? ⟨h, 0, none⟩ = some (.int .i64 (Sn : Int)) ∧ w'.cell? ⟨h, 1, none⟩ = some (.slice ao T.length pc)))
  have HD := head15_any w1 (hT'.out w1 (Far.refl _ _))
  have hn2' := Lib.hid hn2
  have hh' := Lib.hid (show w.heap.size = h by omega)
  have hw1' := Lib.hid hw1
  clear hP hA hB hh hw1 hX hF hT hs2 hn2
  go_enter Tryd.func6, Tryd.ntmps6
  go_upto_region 1 with fail
  rw [hh'.out, ← hw1'.out]
  go_wp2_with fail
  refine HD.mono ?_
  rintro e w2 ⟨rfl, hf2⟩
  have hf2' := Lib.hid hf2
  obtain ⟨a0, a1⟩ := hc'.out w2 hf2
  have WH := pwho_any (Sn : Int) (.slice ao T.length pc) (.slice none 0 0) T [] w2 (hP'.out.move hf2) (Src.nil _ _) hn1 hn2'.out (hT'.out w2 hf2)
  rw [hcode.out] at WH
  clear HD hf2
  go_wp2_with fail
  refine WH.mono ?_
  rintro e w3 ⟨⟨v3, xs3, rfl, _, _⟩, hf3⟩
  have hf3' := Lib.hid (hf2'.out.then hf3)
  obtain ⟨a0, a1⟩ := hc'.out w3 hf3'.out
  have SH := shortest_yes Sn (.slice ao T.length pc) T w3 (hP'.out.move hf3'.out) hn1 hn2'.out hok'.out.1
  clear WH hf3
  go_wp2_with fail
  refine SH.mono ?_
  rintro e w4 ⟨hf4, gR, s, rfl, hgR, hsr, hsh⟩
  have hf4' := Lib.hid (hf3'.out.then hf4)
  clear SH hf4 a0 a1
  have hsr' := Lib.hid hsr
  have hsh' := Lib.hid hsh
  have hgR' := Lib.hid hgR
  obtain ⟨a0, a1⟩ := hc'.out w4 hf4'.out
  have en : ((Sn : Int) != (Sn : Int)) = false := by simp
  clear hsr hsh hgR
  have e1 : decide ((n : Int) < 0) = false := by rw [decide_eq_false_iff_not]; omega
  have e2 : decide ((T.length : Int) ≤ (n : Int)) = false := by rw [decide_eq_false_iff_not]; omega
  have hnI : (n : Int) < (T.length : Int) := by omega
  obtain ⟨b, off, c, he, hbl, c0, c1, hbd⟩ := (hP'.out.move hf4'.out).prod ht'.out
  simp only [Value.slice.injEq] at he
  obtain ⟨rfl, _, rfl⟩ := he
  simp only at c0 c1 hbd
  obtain ⟨bb, boff, bc, he, hbl2, s0, s1⟩ := Body.sym hbd (k := 0) (s := ((false, x) : Sy)) rfl
  subst he
  obtain ⟨bb', boff', bc', he, _, s2, s3⟩ := Body.sym hbd (k := 1) (s := ((false, y) : Sy)) rfl
  simp only [Value.slice.injEq, Option.some.injEq, Addr.mk.injEq] at he
  obtain ⟨⟨rfl, rfl, _⟩, _, rfl⟩ := he
  simp only [Nat.zero_mul, Nat.add_zero, Nat.one_mul] at s0 s1 s2 s3
  simp only [List.length_cons, List.length_nil, Nat.zero_add, Nat.reduceAdd] at c1 hbd
  have e3 : decide ((64 : Int) < (A.length : Int) + (B.length : Int)) = false := by rw [decide_eq_false_iff_not]; omega
  have hY4 := Lib.hid (show ∀ w', Far (fun _ => False) w4 w' → w'.cell? ⟨bb, boff + 1, none⟩ = some (.int .i64 x) ∧ w'.cell? ⟨bb, boff + 2 + 1, none⟩ = some (.int .i64 y) from fun w' hf => ⟨(hf.cell hbl2).trans s1, (hf.cell hbl2).trans s3⟩)
  clear s0 s1 s2 s3 hbd
  go_upto_region 12 with fail
  obtain ⟨kp, hkp⟩ : ∃ k, k = w4.heap.size := ⟨_, rfl⟩
  obtain ⟨w5, hw5⟩ : ∃ W, W = w4.alloc (.cells #[.int .i64 (hn : Int), .slice (some ⟨bb, boff, none⟩) 2 bc] 48) := ⟨_, rfl⟩
  rw [← hkp, ← hw5]
  have hf45 : Far (fun _ => False) w4 w5 := hw5 ▸ (Far.refl _ w4).alloc _
  have hK5 := Lib.hid (hw5 ▸ Bk.new hkp : Bk w5 kp 48 #[.int .i64 (hn : Int), .slice (some ⟨bb, boff, none⟩) 2 bc])
  have hf5' := Lib.hid (hf4'.out.then hf45)
  have hC5 := Lib.hid (show ∀ w', Far (fun _ => False) w5 w' → (fun w' => w'.cell? ⟨h, 0, none⟩ = some (.int .i64 (Sn : Int)) ∧ w'.cell? ⟨h, 1, none⟩ = some (.slice (some ⟨b, off, none⟩) T.length pc) ∧ w'.cell? ⟨kp, 1, none⟩ = some (.slice (some ⟨bb, boff, none⟩) 2 bc) ∧ w'.cell? ⟨bb, boff + 1, none⟩ = some (.int .i64 x)) w' from fun w' hf => ⟨(hc'.out w' (hf5'.out.then hf)).1, (hc'.out w' (hf5'.out.then hf)).2, (hK5.out.far' hf id).cell 1, (hY4.out w' (hf45.then hf)).1⟩)
  have hC6 := Lib.hid (show ∀ w', Far (fun _ => False) w5 w' → (fun w' => w'.cell? ⟨h, 0, none⟩ = some (.int .i64 (Sn : Int)) ∧ w'.cell? ⟨h, 1, none⟩ = some (.slice (some ⟨b, off, none⟩) T.length pc) ∧ w'.cell? ⟨kp, 1, none⟩ = some (.slice (some ⟨bb, boff, none⟩) 2 bc) ∧ w'.cell? ⟨bb, boff + 2 + 1, none⟩ = some (.int .i64 y)) w' from fun w' hf => ⟨(hc'.out w' (hf5'.out.then hf)).1, (hc'.out w' (hf5'.out.then hf)).2, (hK5.out.far' hf id).cell 1, (hY4.out w' (hf45.then hf)).2⟩)
  have hS5 := Lib.hid (show ∀ w', Far (fun _ => False) w5 w' → IRow w' gR Sn s from fun w' hf => Bk.far' hsr'.out (hf45.then hf) id)
  have hK0 := Lib.hid (show ∀ w', Far (fun _ => False) w5 w' → w'.cell? ⟨kp, 0, none⟩ = some (.int .i64 (hn : Int)) from fun w' hf => (hK5.out.far' hf id).cell 0)
  have PH := Lib.hid (fun (q : Int) (vv : Value) (Wo : List Int) (hq : 0 ≤ q ∧ q < Sn) (hl : Wo.length ≤ 64) w' (hf : Far (fun _ => False) w5 w') (hw : WdM w' vv Wo) => phas_ok (Sn : Int) (.slice (some ⟨b, off, none⟩) T.length pc) vv T q Wo w' (hP'.out.move (hf5'.out.then hf)) hw hn1 hn2'.out (hT'.out w' (hf5'.out.then hf)) hok'.out hq hl)
  have P1 := Lib.hid (fun w' hf => PH.out x (.slice xo A.length xc) A hx (by omega) w' hf (hA'.out.move (hf5'.out.then hf)))
  have P2 := Lib.hid (fun w' hf => PH.out y (.slice yo B.length yc) B hy (by omega) w' hf (hB'.out.move (hf5'.out.then hf)))
  clear hkp hw5 hf45 c0 c1 a0 a1 hbl hbl2 hY4 e1 e2 e3 en hnI
  go_region_held3 (fun w' => w'.cell? ⟨h, 0, none⟩ = some (.int .i64 (Sn : Int)) ∧ w'.cell? ⟨h, 1, none⟩ = some (.slice (some ⟨b, off, none⟩) T.length pc) ∧ w'.cell? ⟨kp, 1, none⟩ = some (.slice (some ⟨bb, boff, none⟩) 2 bc) ∧ w'.cell? ⟨bb, boff + 1, none⟩ = some (.int .i64 x)) (first | exact hC5.out _ (drew_far _) | exact hC5.out _ hf6'.out) (first | (go_at_call 13; refine (P1.out _ (drew_far _)).mono ?_; rintro e w6 ⟨⟨b1, rfl, hb1⟩, hf6⟩; have hb1' := Lib.hid hb1; have hf6' := Lib.hid ((drew_far _).then hf6); clear hb1 hf6))
  go_upto_region 13 with fail
  go_region_held3 (fun w' => w'.cell? ⟨h, 0, none⟩ = some (.int .i64 (Sn : Int)) ∧ w'.cell? ⟨h, 1, none⟩ = some (.slice (some ⟨b, off, none⟩) T.length pc) ∧ w'.cell? ⟨kp, 1, none⟩ = some (.slice (some ⟨bb, boff, none⟩) 2 bc) ∧ w'.cell? ⟨bb, boff + 2 + 1, none⟩ = some (.int .i64 y)) (first | exact hC6.out _ (hf6'.out.then (drew_far _)) | exact hC6.out _ hf7'.out) (first | (go_at_call 13; refine (P2.out _ (hf6'.out.then (drew_far _))).mono ?_; rintro e w7 ⟨⟨b2, rfl, hb2⟩, hf7⟩; have hb2' := Lib.hid hb2; have hf7' := Lib.hid ((hf6'.out.then (drew_far _)).then hf7); clear hb2 hf7))
  obtain ⟨inf, hinf, hz0, hz1, hz2⟩ := info_int1
  have HA7 := Lib.hid (hA'.out.move (hf5'.out.then hf7'.out))
  have HB7 := Lib.hid (hB'.out.move (hf5'.out.then hf7'.out))
  have A3 : ∀ L : List Int, ∀ u ∈ wcells L, u.oneCell' = true := fun L u hu => by
    obtain ⟨q, _, rfl⟩ := List.mem_map.1 hu
    rfl
  have A4 : 0 + A.length ≤ maxLen := by unfold maxLen; omega
  have A5 : (0 + A.length) * 8 ≤ 140737488355328 := by omega
  obtain ⟨wo7, hwo⟩ : ∃ wo, wo = w7 := ⟨_, rfl⟩
  rw [← hwo] at HA7 HB7 hf7' ⊢
  clear hwo
  go_upto_region 16 with (at_builtin; refine wpList_append_src rfl _ _ 25 rfl wo7.heap.size 3 inf _ 1 8 Tryd.underlying25 hinf hz0 hz1 hz2 rfl (by decide) (.slice none 0 0) 0 [] rfl (World.ownsRow_nil _ _ _ _) (.slice xo A.length xc) A.length (wcells A) rfl HA7.out (A3 _) A4 A5 (Nat.le_refl _) ?_; intro v8 w8 ho8 hg8; obtain ⟨p8, c8, rfl⟩ := Src.form (Src.own ho8); have ho8' := Lib.hid ho8; have hg8' := Lib.hid hg8; clear ho8 hg8)
  have hw8 := Lib.hid (show w8.ownsRow wo7.heap.size 3 1 (.slice p8 A.length c8) A.length (wcells A) by have := ho8'.out; rwa [Nat.zero_add, List.nil_append] at this)
  have hf78 : Far (fun _ => False) wo7 w8 := (Far.refl _ _).grown hg8'.out fun k _ e => by cases e
  have hf8' := Lib.hid (hf7'.out.then hf78)
  have HB8 := Lib.hid (HB7.out.move hf78)
  have A4 : A.length + B.length ≤ maxLen := by unfold maxLen; omega
  have A5 : (A.length + B.length) * 8 ≤ 140737488355328 := by omega
  have A6 := hf78.size
  have hf78' := Lib.hid hf78
  obtain ⟨m, hm⟩ : ∃ m, m = A.length + B.length := ⟨_, rfl⟩
  have hm' := Lib.hid hm
  clear hf78 ho8' hg8' hm
  go_upto_region 17 with (at_builtin; refine wpList_append_src rfl _ _ 25 rfl wo7.heap.size 3 inf _ 1 8 Tryd.underlying25 hinf hz0 hz1 hz2 rfl (by decide) (.slice p8 A.length c8) A.length (wcells A) rfl hw8.out (.slice yo B.length yc) B.length (wcells B) rfl HB8.out (A3 _) A4 A5 A6 ?_; intro v9 w9 ho9 hg9; rw [← hm'.out] at ho9; obtain ⟨p9, c9, rfl⟩ := Src.form (Src.own ho9); have ho9' := Lib.hid ho9; have hg9' := Lib.hid hg9; clear ho9 hg9)
  have hAB : (A ++ B).length = m := by rw [List.length_append, hm'.out]
  have hw9 : WdM w9 (.slice p9 m c9) (A ++ B) := by
    have := Src.own ho9'.out
    show Src w9 1 _ (A ++ B).length (wcells (A ++ B))
    rw [hAB]
    unfold wcells at this ⊢
    rw [List.map_append]
    exact this
  have hf79 : Far (fun _ => False) wo7 w9 := hf78'.out.out (Far.grown (Far.refl (fun k => (Value.slice p8 A.length c8).ownBlock = some k) w8) hg9'.out fun k _ e => e) fun k hk e => by
    have := (hw8.out.lt k e).1
    omega
  have hf9' := Lib.hid (hf7'.out.then hf79)
  obtain ⟨d0, d1, -, -⟩ := hC5.out w9 hf9'.out
  have d2 := hK0.out w9 hf9'.out
  have P3 := PH.out (hn : Int) (.slice p9 m c9) (A ++ B) (by omega) (by rw [hAB]; have := hm'.out; omega) w9 hf9'.out hw9
  rw [hAB] at P3
  have hm64 : m ≤ 64 := by have := hm'.out; omega
  clear hw8 HB8 HA7 HB7 A3 A4 A5 A6 hf79 hw9 ho9' hg9' hf78' hAB PH P1 P2 hC5 hC6 hf8'
  go_upto_region 18 with (go_at_call 13; refine P3.mono ?_; rintro e w10 ⟨⟨b3, rfl, hb3⟩, hf10⟩; have hb3' := Lib.hid hb3; have hf10' := Lib.hid (hf9'.out.then hf10); clear hb3 hf10)
  have hfE := Lib.hid ((hF0.out.then (hf5'.out.then hf10'.out)).below (Nat.le_refl _) fun _ _ h => h)
  have hmt := List.mem_map_of_mem (f := pl) (List.mem_of_getElem? ht'.out)
  have hbo := Lib.hid (show b1 = true → b2 = true → b3 = true from fun q1 q2 => hb3'.out.2 (by
    have := der_both hmt (hb1'.out.1 q1) (hb2'.out.1 q2)
    rw [List.length_append, ← hm'.out] at this
    exact this))
  have i0 := (hS5.out w10 hf10'.out).at hhd
  have i1 := hK0.out w10 hf10'.out
  have hIS : (hn : Int) < (Sn : Int) := by omega
  obtain ⟨sv, hsv⟩ : ∃ sv, sv = s hn := ⟨_, rfl⟩
  have hsr2 := Lib.hid (show b3 = true → 0 ≤ sv ∧ sv ≤ (m : Int) from fun q => by
    have := der_short hsh'.out.1 hok'.out (hb3'.out.1 q)
    rw [hsv]
    exact this)
  rw [← hsv] at i0
  clear hmt hsv d0 d1 d2 P3
  cases b3 with
  | true =>
    have e4 : decide ((0 : Int) ≤ sv) = true := by rw [decide_eq_true_eq]; exact (hsr2.out rfl).1
    have e5 : decide (sv ≤ (m : Int)) = true := by rw [decide_eq_true_eq]; exact (hsr2.out rfl).2
    cases b1 <;> cases b2 <;>
      (go_wp2_with fail
       go_ret
       exact ⟨rfl, hfE.out⟩)
  | false =>
    cases b1 with
    | false =>
      go_wp2_with fail
      go_ret
      exact ⟨rfl, hfE.out⟩
    | true =>
      cases b2 with
      | false =>
        go_wp2_with fail
        go_ret
        exact ⟨rfl, hfE.out⟩
      | true => exact absurd (hbo.out rfl rfl) (by decide)
theorem rowslaw (S : Int) (pv av bv : Value) (T : List Tr) (k : Int) (A B : List Int) (w : World) (hP : Prods w pv T) (hA : WdM w av A) (hB : WdM w bv B) (hs : T.length * 32 ≤ 140737488351232) (hs2 : ∀ t ∈ T, t.2.2.length * 16 ≤ 140737488351232) (hal : A.length * 8 ≤ 140737488351232) (hbl : B.length * 8 ≤ 140737488351232) (hT : Tab w) :
    Calls Tryd.prog 6 #[.agg #[.int .i64 S, pv], .int .i64 k, av, bv] w fun e w' => e = .returned (.bool true) ∧ Below w.heap.size w w' := by
  rcases code_nil S T with ⟨hok, hc⟩ | ⟨_, hc⟩
  · obtain ⟨Sn, rfl⟩ : ∃ n : Nat, S = (n : Int) := ⟨S.toNat, by have := hok.1.1; omega⟩
    by_cases h1 : k < 0
    · exact rows_triv Sn pv av bv T k A B w hP hA hB hs hs2 hal hbl hT hok hc (.inl h1)
    · by_cases h2 : (T.length : Int) ≤ k
      · exact rows_triv Sn pv av bv T k A B w hP hA hB hs hs2 hal hbl hT hok hc (.inr (.inl h2))
      · obtain ⟨n, rfl⟩ : ∃ n : Nat, k = (n : Int) := ⟨k.toNat, by omega⟩
        obtain ⟨t, ht⟩ : ∃ t, T[n]? = some t := ⟨_, List.getElem?_eq_getElem (show n < T.length by omega)⟩
        by_cases h3 : t.2.2.length = 2 ∧ A.length + B.length ≤ 64
        · obtain ⟨hd, tv, l⟩ := t
          have hmem := List.mem_of_getElem? ht
          have hsy : (0 ≤ hd ∧ hd < (Sn : Int)) ∧ ∀ x ∈ l, symOK (Sn : Int) x := hok.1.2 _ hmem
          have hwk : weakB l = true := hok.2 _ hmem
          obtain ⟨hn, rfl⟩ : ∃ n : Nat, hd = (n : Int) := ⟨hd.toNat, by omega⟩
          match l, h3.1, hsy, hwk, ht with
          | [(xb, x), (yb, y)], _, hsy, hwk, ht =>
            have hb : xb = false ∧ yb = false := by simpa [weakB, shortB, pairB] using hwk
            obtain ⟨rfl, rfl⟩ := hb
            have hx := hsy.2 (false, x) (by simp)
            have hy := hsy.2 (false, y) (by simp)
            exact rows_main Sn pv av bv T n A B w hP hA hB hs hs2 hal hbl hT hok hc hn x y tv ht (by omega) ⟨hx.1, hx.2.2 rfl⟩ ⟨hy.1, hy.2.2 rfl⟩ h3.2
        · exact rows_triv Sn pv av bv T n A B w hP hA hB hs hs2 hal hbl hT hok hc (.inr (.inr ⟨t, by omega, by omega, ht, by omega⟩))
  · exact rows_bad S pv av bv T k A B w hP hA hB hs hs2 hal hbl hT _ rfl hc
end
end Go.Proofs.YteojbnkjphghkaaDoor
