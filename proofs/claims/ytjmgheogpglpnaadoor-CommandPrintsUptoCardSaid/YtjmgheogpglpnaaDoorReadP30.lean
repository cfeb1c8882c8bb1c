/-
  The program reads names and numbers.
-/
import Derived.Test.YtjmgheogpglpnaaDoorNumber30
namespace Go.Proofs.YtjmgheogpglpnaaDoor
open Go.RowKit
set_option linter.unusedVariables false
set_option linter.unusedSimpArgs false
def Lp (kr kc : Nat) (w : World) : Prop := Lw w ∧ 4 ≤ kr ∧ 4 ≤ kc
theorem namesF_len : ∀ (n : Nat) (acc : List Tx) (s : St) (l : List Tx) (s1 : St), namesF n acc s = some (l, s1) → s1.1.length ≤ s.1.length ∧ l.length = acc.length + n
  | 0, acc, s, l, s1, h => by
    injection h with h
    injection h with h1 h2
    subst h1 h2
    exact ⟨Nat.le_refl _, rfl⟩
  | n + 1, acc, s, l, s1, h => by
    unfold namesF at h
    cases hx : nameF s with
    | none => rw [hx] at h; cases h
    | some p =>
      obtain ⟨x, s'⟩ := p
      rw [hx] at h
      obtain ⟨a, b⟩ := namesF_len n _ s' l s1 h
      have := nameF_len hx
      exact ⟨by omega, by rw [b]; simp; omega⟩
theorem numberF_len {s s' : St} {m : Nat} (h : numberF s = some (m, s')) : s'.1.length ≤ s.1.length := by
  unfold numberF at h
  cases hx : nameF s with
  | none => rw [hx] at h; cases h
  | some p =>
    obtain ⟨x, s1⟩ := p
    rw [hx] at h
    dsimp only at h
    cases hn : numT x with
    | none => rw [hn] at h; cases h
    | some n =>
      rw [hn] at h
      injection h with h
      injection h with h1 h2
      subst h2
      exact nameF_len hx
section
set_option maxHeartbeats 4000000
set_option maxRecDepth 100000
theorem readPaths_any (kr kc B : Nat) (s : St) (w : World) (hr : RdB w kr s) (hc : Bk w kc 27 (cmdNil 7)) (h2 : kr < B) (h3 : kc < B) (h4 : B ≤ w.heap.size) (hs : s.1.length ≤ 140737488351232) (hL : Lp kr kc w) :
    Calls Tryd.prog 45 #[.pointer (some ⟨kr, 0, none⟩), .pointer (some ⟨kc, 0, none⟩)] w (RPost B kr kc w (readF 7 s)) := by
  obtain ⟨z, hz⟩ : ∃ z, z = readF 7 s := ⟨_, rfl⟩
  rw [← hz]
  have hz' := Lib.hid (show z = match namesF 3 [] s with
    | none => none
    | some (l, s1) => match numberF s1 with
      | none => none
      | some (a, s2) => match numberF s2 with
        | none => none
        | some (b, s3) => some ({ cm0 with v := 7, names := l, nums := [a, b] }, s3) by rw [hz]; unfold readF; rw [if_neg (by decide), if_neg (by decide), if_pos rfl]; rfl)
  clear hz
  have hne := bk_ne hr hc rd_cmd
  have hne2 : kc ≠ kr := fun e => hne e.symm
  obtain ⟨kb, hkb⟩ : ∃ k, k = w.heap.size := ⟨_, rfl⟩
  obtain ⟨W6, hW6⟩ : ∃ W, W = w.alloc (.cells #[.int .i64 3] 3) := ⟨_, rfl⟩
  have RN := readNames_any 3 w
  rw [← hkb, ← hW6] at RN
  unfold clV at RN
  have hA6 : Far (fun _ => False) w W6 := hW6 ▸ (Far.refl _ w).alloc _
  have s6 : W6.heap.size = kb + 1 := by rw [hW6]; simp [hkb]
  have hb6 : Bk W6 kb 3 #[.int .i64 ((3 : Nat) : Int)] := hW6 ▸ Bk.new hkb
  have NA := names_any 3 kb kr kc (kb + 1) s { cm0 with v := 7 } W6 hb6 (hr.far' hA6 id) (cd_nil _ (hc.far' hA6 id)) (by omega) (by omega) (by omega) (by omega) (by show 3 + 0 ≤ 1000; decide) hs
  have e0 : ({ cm0 with v := 7 } : Cm).names = [] := rfl
  rw [e0] at NA
  have hBk : B ≤ kb := by omega
  have hA6' := Lib.hid hA6
  have hL' := Lib.hid hL
  have hs6 := Lib.hid s6
  clear hkb hW6 s6 hb6 hr hc hA6 hL
  cases hn : namesF 3 [] s with
  | none =>
    rw [hn] at NA hz'
    go_enter Tryd.func45, Tryd.ntmps45
    go_wp2_with (first
      | (go_at_call 41; refine RN.mono ?_; rintro e w7 ⟨rfl, rfl⟩)
      | (refine NA.mono ?_; rintro e w8 ⟨hf8, rfl, hc8⟩; have hc8' := Lib.hid hc8; have hf8' := Lib.hid hf8; clear hf8 hc8))
    exact ⟨rfl, (hA6'.out.mono (G := FR B kr kc) fun _ _ h => h.elim).trans (hf8'.out.mono (G := FR B kr kc) fun k _ e => e.imp id (·.imp id fun e => by omega)) fun _ _ h => h, by rw [hz'.out]; exact ⟨rfl, hc8'.out⟩⟩
  | some q =>
    obtain ⟨l, s1⟩ := q
    rw [hn] at NA hz'
    dsimp only at hz'
    have hl1 : s1.1.length ≤ 140737488351232 := Nat.le_trans (namesF_len _ _ _ _ _ hn).1 hs
    go_enter Tryd.func45, Tryd.ntmps45
    go_upto_region 1 with (first
      | (go_at_call 41; refine RN.mono ?_; rintro e w7 ⟨rfl, rfl⟩)
      | (refine NA.mono ?_; rintro e w8 ⟨hf8, rfl, hr8, nv, mv, hcb, hnv, hmv⟩; have hr8' := Lib.hid hr8; have hcb8' := Lib.hid hcb; have hnv8' := Lib.hid hnv; have hmv8' := Lib.hid (show _root_.Go.World.ownsRow w8 (kb + 1) 3 1 mv 0 (nums []) from hmv); have hf8' := Lib.hid hf8; clear hf8 hr8 hcb hnv hmv NA))
    have hk4 := Lib.hid (show B ≤ kb ∧ kb + 1 ≤ w7.heap.size ∧ w.heap.size ≤ w7.heap.size ∧ 4 ≤ B from ⟨hBk, by have := hs6.out; omega, hA6'.out.size, by have := hL'.out.2.1; omega⟩)
    have hF8 := Lib.hid ((hA6'.out.mono (G := FR B kr kc) fun _ _ h => h.elim).trans (hf8'.out.mono (G := FR B kr kc) fun k _ e => e.imp id (·.imp id fun e => by omega)) fun _ _ h => h)
    have hkb0 := Lib.hid (show kb + 1 ≤ w8.heap.size from by have := hf8'.out.size; have := hk4.out; omega)
    clear RN
    have hne8 := Lib.hid (bk_ne hr8'.out hcb8'.out rd_cmd)
    obtain ⟨mo8, mc8, rfl⟩ := Src.form (Src.own hmv8'.out)
    have d8 : w8.cell? ⟨kc, 3, none⟩ = some (.slice mo8 0 mc8) := hcb8'.out.cell 3
    have hLw8 := Lib.hid (hL'.out.1.far hF8.out fun j hj e => by have a := hL'.out.2.1; have b := hL'.out.2.2; have c := hk4.out; rcases e with e | e | e <;> omega)
    cases hx8 : numberF s1 with
    | none =>
      rw [hx8] at hz'
      dsimp only at hz'
      have NM := Lib.hid (number_no kr s1 w8.drew (hr8'.out.far' (drew_far _) id) hl1 (hLw8.out.far (drew_far _) fun _ _ h => h) hL'.out.2.1 hx8)
      have FIN := Lib.hid (show ∀ w4, Far (fun k => k = kr) w8.drew w4 → RPost B kr kc w z (.panicked wrongP) w4 from fun w4 hf4 => ⟨hF8.out.trans (((drew_far w8).mono (G := FR B kr kc) fun _ _ h => h.elim).trans (hf4.mono (G := FR B kr kc) fun k _ e => .inl e) fun _ _ h => h) fun _ _ h => h, by rw [hz'.out]; exact ⟨rfl, _, rfl, (hcb8'.out.far' (drew_far w8) id).far' hf4 (fun e => hne8.out e.symm)⟩⟩)
      clear hx8
      go_region_law (refine step_stop rfl 58 #[.pointer (some ⟨kr, 0, none⟩)] ?_ NM.out ?_ ?_; (go_simp); (intro v4 hf4; exact (show _ ∧ _ from ⟨rfl, FIN.out _ hf4⟩)))
      all_goals trivial
    | some p =>
      obtain ⟨a, s2⟩ := p
      rw [hx8] at hz'
      dsimp only at hz'
      have NM := Lib.hid (number_yes kr s1 s2 a w8.drew (hr8'.out.far' (drew_far _) id) hl1 (hLw8.out.far (drew_far _) fun _ _ h => h) hL'.out.2.1 hx8)
      have hls2 := Nat.le_trans (numberF_len hx8) hl1
      obtain ⟨pi, pz, pi1, pi2, pi3, pi4, pi5⟩ := info3 info_int
      have A7 : 0 < 1 := by decide
      have B4 : 1 ≤ maxLen := by unfold maxLen; simp
      have B5 : (1) * 8 ≤ 140737488355328 := by simp
      have hqk := Lib.hid (own_ne hmv8'.out hcb8'.out int_cmd)
      have hqr := Lib.hid (own_ne hmv8'.out hr8'.out int_rd)
      have hqB := Lib.hid (show ∀ k, (Value.slice mo8 0 mc8).ownBlock = some k → kb + 1 ≤ k from fun k e => (hmv8'.out.lt k e).1)
      have hqn := Lib.hid (show ∀ k, (Value.slice mo8 0 mc8).ownBlock = some k → nv.ownBlock ≠ some k from fun k e => rows_ne hmv8'.out hnv8'.out (fun e => str_int e.symm) e)
      have hnk := Lib.hid (own_ne hnv8'.out hcb8'.out str_cmd)
      have hnr := Lib.hid (own_ne hnv8'.out hr8'.out str_rd)
      have hkb8 := hkb0
      clear hx8
      go_region_law
        (first
          | (refine step_app rfl (.tmp 12) (.tmp 15) 25 rfl (kb + 1) 3 pi pz 1 8 Tryd.underlying25 pi1 pi2 pi3 pi4 pi5 A7 (.slice mo8 0 mc8) 0 _ rfl B1'.out (.slice (some ⟨v4.heap.size, 0, none⟩) 1 1) 1 _ rfl B2'.out B3'.out B4 B5 B6 ?_; intro v2 w5 ho5 hg5; obtain ⟨vo2, vc2, rfl⟩ := Src.form (Src.own ho5); have hC5 := Bk.grownR (w := (v4.alloc (.cells #[.int .i64 (a : Int)] 3))) (Bk.alloc hC4.out _) hg5 (fun e => hqk.out e.symm); have u0 := hC5.free 3; have u1 : w5.cell? ⟨kc, 3, none⟩ = some (.slice mo8 0 mc8) := hC5.cell 3; have ho5' := Lib.hid ho5; have hg5' := Lib.hid hg5; have hC5' := Lib.hid hC5; clear ho5 hg5 hC5)
          | (refine step_call rfl 58 #[.pointer (some ⟨kr, 0, none⟩)] ?_ (NM.out.mono (fun e w' ⟨h1, h2⟩ => ⟨_, h1, rfl, h2⟩) : Calls _ _ _ _ fun e w' => ∃ v, e = .returned v ∧ (v = .int .i64 (a : Int) ∧ RdB w' kr s2 ∧ Far (fun i => i = kr) w8.drew w')) ?_; (go_simp); rintro v3 v4 ⟨rfl, hr4, hf4⟩; have FW4 := Lib.hid (((drew_far w8).mono (G := fun i => i = kr) fun _ _ h => h.elim).trans hf4 fun _ _ h => h); have hC4 := Lib.hid (hcb8'.out.far' FW4.out (fun e => hne8.out e.symm)); have r2 : v4.cell? ⟨kc, 3, none⟩ = some (.slice mo8 0 mc8) := hC4.out.cell 3; have hN4 := Lib.hid (row_far hmv8'.out FW4.out fun k hk e => by subst e; exact hqr.out hk); have hM4 := Lib.hid (row_far hnv8'.out FW4.out fun k hk e => by subst e; exact hnr.out hk); have hR4 := Lib.hid hr4; have l2 : kc < v4.heap.size := hC4.out.lt; have n1 : kc ≠ v4.heap.size := (by omega); have B1' := Lib.hid (hN4.out.alloc (.cells #[.int .i64 (a : Int)] 3)); have B2' := Lib.hid (src_new v4 3 [.int .i64 (a : Int)]); have B3' := Lib.hid (show ∀ u ∈ [(.int .i64 (a : Int) : Value)], u.oneCell' = true by simp [Value.oneCell']); have B6 : kb + 1 ≤ (v4.alloc (.cells #[.int .i64 (a : Int)] 3)).heap.size := (by have := FW4.out.size; have := hkb8.out; simp; omega); clear hr4 hf4))
      all_goals
        have hA4 : Far (fun _ => False) v4 (v4.alloc (.cells #[.int .i64 (a : Int)] 3)) := (Far.refl _ v4).alloc _
        have hG5 := Lib.hid (grown_far hg5'.out)
        have hS5 := Lib.hid ((Far.refl (fun k => k = kc) w5).set ⟨kc, 3, none⟩ (.slice vo2 (1) vc2) (fun _ => rfl))
        have hr9' := Lib.hid (((hR4.out.far' hA4 id).far' hG5.out hqr.out).far' hS5.out hne8.out)
        have hmv9' := Lib.hid (row_far ho5'.out hS5.out fun k hk e => by subst e; exact own_ne ho5'.out hC5'.out int_cmd hk)
        have hnv9' := Lib.hid (row_far (row_far (row_far hM4.out hA4 fun _ _ h => h) hG5.out fun k hk e => hqn.out k e hk) hS5.out fun k hk e => by subst e; exact hnk.out hk)
        have hF9 := Lib.hid (hF8.out.trans (((FW4.out.mono (G := FR B kr kc) fun k _ e => .inl e).trans ((hA4.mono (G := FR B kr kc) fun _ _ h => h.elim).trans (hG5.out.mono (G := FR B kr kc) fun k _ e => .inr (.inr (by have := hqB.out k e; omega))) fun _ _ h => h) fun _ _ h => h).trans (hS5.out.mono (G := FR B kr kc) fun k _ e => .inr (.inl e)) fun _ _ h => h) fun _ _ h => h)
        have hcb9' := Lib.hid (hC5'.out.set 3 (.slice vo2 (1) vc2))
        have hkb9 := Lib.hid (show kb + 1 ≤ (w5.setCell ⟨kc, 3, none⟩ (.slice vo2 1 vc2)).heap.size from by have a1 := FW4.out.size; have a2 := hA4.size; have a3 := hG5.out.size; have a4 := hS5.out.size; have a5 := hkb8.out; omega)
        obtain ⟨w9, hw9⟩ : ∃ W, W = w5.setCell ⟨kc, 3, none⟩ (.slice vo2 (1) vc2) := ⟨_, rfl⟩
        go_upto_region 2 with fail
        rw [← hw9] at hkb9 hr9' hmv9' hnv9' hF9 hcb9' ⊢
        clear hw9 hA4 hG5 hS5 u0 u1 l2 n1 r2 d8 hg5' ho5' hC5' hC4 hN4 hM4 hR4 FW4 hqk hqr hqB hqn hnk hnr B1' B2' B3' B4 B5 B6 NM pi1 pi2 pi3 pi4 pi5
        have hne9 := Lib.hid (bk_ne hr9'.out hcb9'.out rd_cmd)
        generalize vo2 = mo9 at *
        generalize vc2 = mc9 at *
        replace hmv9' : Hid (w9.ownsRow (kb + 1) 3 1 (.slice mo9 1 mc9) 1 (nums [a])) := Lib.hid hmv9'.out
        replace hcb9' : Hid (Bk w9 kc 27 #[.int .i64 ((7 : Nat) : Int), .int .i64 0, nv, .slice mo9 1 mc9, .string ⟨#[]⟩]) := Lib.hid hcb9'.out
        have d9 : w9.cell? ⟨kc, 3, none⟩ = some (.slice mo9 1 mc9) := hcb9'.out.cell 3
        have hLw9 := Lib.hid (hL'.out.1.far hF9.out fun j hj e => by have a := hL'.out.2.1; have b := hL'.out.2.2; have c := hk4.out; rcases e with e | e | e <;> omega)
        cases hx9 : numberF s2 with
        | none =>
          rw [hx9] at hz'
          dsimp only at hz'
          have NM := Lib.hid (number_no kr s2 w9.drew (hr9'.out.far' (drew_far _) id) hls2 (hLw9.out.far (drew_far _) fun _ _ h => h) hL'.out.2.1 hx9)
          have FIN := Lib.hid (show ∀ w4, Far (fun k => k = kr) w9.drew w4 → RPost B kr kc w z (.panicked wrongP) w4 from fun w4 hf4 => ⟨hF9.out.trans (((drew_far w9).mono (G := FR B kr kc) fun _ _ h => h.elim).trans (hf4.mono (G := FR B kr kc) fun k _ e => .inl e) fun _ _ h => h) fun _ _ h => h, by rw [hz'.out]; exact ⟨rfl, _, rfl, (hcb9'.out.far' (drew_far w9) id).far' hf4 (fun e => hne9.out e.symm)⟩⟩)
          clear hx9
          go_region_law (refine step_stop rfl 58 #[.pointer (some ⟨kr, 0, none⟩)] ?_ NM.out ?_ ?_; (go_simp); (intro v4 hf4; exact (show _ ∧ _ from ⟨rfl, FIN.out _ hf4⟩)))
          all_goals trivial
        | some p =>
          obtain ⟨b, s3⟩ := p
          rw [hx9] at hz'
          dsimp only at hz'
          have NM := Lib.hid (number_yes kr s2 s3 b w9.drew (hr9'.out.far' (drew_far _) id) hls2 (hLw9.out.far (drew_far _) fun _ _ h => h) hL'.out.2.1 hx9)
          have hls3 := Nat.le_trans (numberF_len hx9) hls2
          obtain ⟨pi, pz, pi1, pi2, pi3, pi4, pi5⟩ := info3 info_int
          have A7 : 0 < 1 := by decide
          have B4 : 2 ≤ maxLen := by unfold maxLen; simp
          have B5 : (2) * 8 ≤ 140737488355328 := by simp
          have hqk := Lib.hid (own_ne hmv9'.out hcb9'.out int_cmd)
          have hqr := Lib.hid (own_ne hmv9'.out hr9'.out int_rd)
          have hqB := Lib.hid (show ∀ k, (Value.slice mo9 1 mc9).ownBlock = some k → kb + 1 ≤ k from fun k e => (hmv9'.out.lt k e).1)
          have hqn := Lib.hid (show ∀ k, (Value.slice mo9 1 mc9).ownBlock = some k → nv.ownBlock ≠ some k from fun k e => rows_ne hmv9'.out hnv9'.out (fun e => str_int e.symm) e)
          have hnk := Lib.hid (own_ne hnv9'.out hcb9'.out str_cmd)
          have hnr := Lib.hid (own_ne hnv9'.out hr9'.out str_rd)
          clear hx9
          go_region_law
            (first
              | (refine step_app rfl (.tmp 23) (.tmp 26) 25 rfl (kb + 1) 3 pi pz 1 8 Tryd.underlying25 pi1 pi2 pi3 pi4 pi5 A7 (.slice mo9 1 mc9) 1 _ rfl B1'.out (.slice (some ⟨v4.heap.size, 0, none⟩) 1 1) 1 _ rfl B2'.out B3'.out B4 B5 B6 ?_; intro v2 w5 ho5 hg5; obtain ⟨vo2, vc2, rfl⟩ := Src.form (Src.own ho5); have hC5 := Bk.grownR (w := (v4.alloc (.cells #[.int .i64 (b : Int)] 3))) (Bk.alloc hC4.out _) hg5 (fun e => hqk.out e.symm); have u0 := hC5.free 3; have u1 : w5.cell? ⟨kc, 3, none⟩ = some (.slice mo9 1 mc9) := hC5.cell 3; have ho5' := Lib.hid ho5; have hg5' := Lib.hid hg5; have hC5' := Lib.hid hC5; clear ho5 hg5 hC5)
              | (refine step_call rfl 58 #[.pointer (some ⟨kr, 0, none⟩)] ?_ (NM.out.mono (fun e w' ⟨h1, h2⟩ => ⟨_, h1, rfl, h2⟩) : Calls _ _ _ _ fun e w' => ∃ v, e = .returned v ∧ (v = .int .i64 (b : Int) ∧ RdB w' kr s3 ∧ Far (fun i => i = kr) w9.drew w')) ?_; (go_simp); rintro v3 v4 ⟨rfl, hr4, hf4⟩; have FW4 := Lib.hid (((drew_far w9).mono (G := fun i => i = kr) fun _ _ h => h.elim).trans hf4 fun _ _ h => h); have hC4 := Lib.hid (hcb9'.out.far' FW4.out (fun e => hne9.out e.symm)); have r2 : v4.cell? ⟨kc, 3, none⟩ = some (.slice mo9 1 mc9) := hC4.out.cell 3; have hN4 := Lib.hid (row_far hmv9'.out FW4.out fun k hk e => by subst e; exact hqr.out hk); have hM4 := Lib.hid (row_far hnv9'.out FW4.out fun k hk e => by subst e; exact hnr.out hk); have hR4 := Lib.hid hr4; have l2 : kc < v4.heap.size := hC4.out.lt; have n1 : kc ≠ v4.heap.size := (by omega); have B1' := Lib.hid (hN4.out.alloc (.cells #[.int .i64 (b : Int)] 3)); have B2' := Lib.hid (src_new v4 3 [.int .i64 (b : Int)]); have B3' := Lib.hid (show ∀ u ∈ [(.int .i64 (b : Int) : Value)], u.oneCell' = true by simp [Value.oneCell']); have B6 : kb + 1 ≤ (v4.alloc (.cells #[.int .i64 (b : Int)] 3)).heap.size := (by have := FW4.out.size; have := hkb9.out; simp; omega); clear hr4 hf4))
          all_goals
            have hA4 : Far (fun _ => False) v4 (v4.alloc (.cells #[.int .i64 (b : Int)] 3)) := (Far.refl _ v4).alloc _
            have hG5 := Lib.hid (grown_far hg5'.out)
            have hS5 := Lib.hid ((Far.refl (fun k => k = kc) w5).set ⟨kc, 3, none⟩ (.slice vo2 (2) vc2) (fun _ => rfl))
            have hr10' := Lib.hid (((hR4.out.far' hA4 id).far' hG5.out hqr.out).far' hS5.out hne9.out)
            have hmv10' := Lib.hid (row_far ho5'.out hS5.out fun k hk e => by subst e; exact own_ne ho5'.out hC5'.out int_cmd hk)
            have hnv10' := Lib.hid (row_far (row_far (row_far hM4.out hA4 fun _ _ h => h) hG5.out fun k hk e => hqn.out k e hk) hS5.out fun k hk e => by subst e; exact hnk.out hk)
            have hF10 := Lib.hid (hF9.out.trans (((FW4.out.mono (G := FR B kr kc) fun k _ e => .inl e).trans ((hA4.mono (G := FR B kr kc) fun _ _ h => h.elim).trans (hG5.out.mono (G := FR B kr kc) fun k _ e => .inr (.inr (by have := hqB.out k e; omega))) fun _ _ h => h) fun _ _ h => h).trans (hS5.out.mono (G := FR B kr kc) fun k _ e => .inr (.inl e)) fun _ _ h => h) fun _ _ h => h)
            have hcb10' := Lib.hid (hC5'.out.set 3 (.slice vo2 (2) vc2))
            clear hA4 hG5 hS5 u0 u1 l2 n1 r2
            go_wp2_with fail
            go_end0
            refine ⟨hF10.out, ?_⟩
            rw [hz'.out]
            exact ⟨rfl, hr10'.out, _, _, hcb10'.out, rowUp hnv10'.out (by omega), rowUp hmv10'.out (by omega)⟩
theorem reads7 : ReadsV Lp 7 := fun h kr kc B s w f cp e hb hr hc h1 h2 h3 h4 hs hL => by
  have e' : rdV h 7 = fnV 45 := rfl
  rw [e'] at e
  unfold fnV at e
  simp only [Value.func.injEq, Fn.func.injEq] at e
  obtain ⟨rfl, _, rfl⟩ := e
  exact readPaths_any kr kc B s w hr hc h2 h3 h4 hs hL
end
end Go.Proofs.YtjmgheogpglpnaaDoor
