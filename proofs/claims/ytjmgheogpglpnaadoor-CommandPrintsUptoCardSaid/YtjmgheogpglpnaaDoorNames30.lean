/-
  The program reads names.
-/
import Derived.Test.YtjmgheogpglpnaaDoorOwn30
namespace Go.Proofs.YtjmgheogpglpnaaDoor
open Go.RowKit
set_option linter.unusedVariables false
set_option linter.unusedSimpArgs false
theorem cut_len (l : Tx) : (cutT l).2.1.length ≤ l.length := by
  rcases blank_cases l with h | ⟨a, b, rfl, h⟩
  · rw [cutT_no h]; exact Nat.zero_le _
  · rw [cutT_yes h]; simp; omega
theorem nameF_len {s s' : St} {x : Tx} (h : nameF s = some (x, s')) : s'.1.length ≤ s.1.length := by
  unfold nameF at h
  split at h
  · split at h
    · cases h
    · injection h with h
      injection h with h1 h2
      rw [← h2]
      exact cut_len _
  · cases h
def NPost (B kr kc : Nat) (c : Cm) (w : World) (r : Option (List Tx × St)) (e : Ending) (w' : World) : Prop :=
  Far (FR B kr kc) w w' ∧ match r with
  | none => e = .panicked wrongP ∧ ∃ cs : Array Value, cs.size = 5 ∧ Bk w' kc 27 cs
  | some (l, s) => e = .returned (.tuple #[]) ∧ RdB w' kr s ∧ Cd w' B kc { c with names := l }
section
set_option maxHeartbeats 4000000
set_option maxRecDepth 100000
theorem names_any (n kb kr kc B : Nat) (s : St) (c : Cm) (w : World) (hb : Bk w kb 3 #[.int .i64 (n : Int)]) (hr : RdB w kr s) (hc : Cd w B kc c) (hB : B ≤ w.heap.size) (hbB : kb < B) (hrB : kr < B) (hcB : kc < B) (hn : n + c.names.length ≤ 1000) (hs : s.1.length ≤ 140737488351232) :
    Calls Tryd.prog 54 #[.pointer (some ⟨kr, 0, none⟩), .pointer (some ⟨kc, 0, none⟩), .pointer (some ⟨kb, 0, none⟩)] w (NPost B kr kc c w (namesF n c.names s)) := by
  obtain ⟨r0, hr0⟩ : ∃ r0, r0 = namesF n c.names s := ⟨_, rfl⟩
  rw [← hr0]
  have b0 : w.cell? ⟨kb, 0, none⟩ = some (.int .i64 (n : Int)) := hb.cell 0
  have hr' := Lib.hid hr
  have hc' := Lib.hid hc
  have hB' := Lib.hid hB
  have hr0' := Lib.hid hr0
  clear hr hc hB hr0 hb
  go_enter Tryd.func54, Tryd.ntmps54
  go_wp2_with fail
  clear b0
  go_loopw [6] (fun iv wr => ∃ (i : Nat) (acc : List Tx) (s1 : St), iv = .int .i64 i ∧ i ≤ n ∧ r0 = namesF (n - i) acc s1 ∧ s1.1.length ≤ 140737488351232 ∧ acc.length = c.names.length + i ∧ RdB wr kr s1 ∧ Cd wr B kc { c with names := acc } ∧ Far (FR B kr kc) w wr) (fun iv _ => n - (intOf iv).toNat)
  case atStart => exact ⟨0, c.names, s, rfl, Nat.zero_le _, by rw [hr0'.out]; rfl, hs, by omega, hr'.out, hc'.out, Far.refl _ _⟩
  case round =>
    obtain ⟨i, acc, s1, rfl, hi, hr1, hs1, hal, hrd, hcd, hfw⟩ := hrel
    by_cases hlt : i < n
    · have e1 : decide ((i : Int) < (n : Int)) = true := by rw [decide_eq_true_eq]; omega
      obtain ⟨nv, mv, hcb, hnv, hmv⟩ := hcd
      dsimp only at hcb hnv hmv
      obtain ⟨ao, ac, rfl⟩ := Src.form (Src.own hnv)
      have d0 : wr.cell? ⟨kc, 2, none⟩ = some (.slice ao acc.length ac) := hcb.cell 2
      have hBr : B ≤ wr.heap.size := Nat.le_trans hB'.out hfw.size
      rw [show n - i = (n - (i + 1)) + 1 by omega] at hr1
      cases hx : nameF s1 with
      | none =>
        have hrn : r0 = none := by rw [hr1]; unfold namesF; rw [hx]
        have NM := Lib.hid (name_no kr s1 wr.drew (hrd.far' (drew_far _) id) hs1 hx)
        have hne := Lib.hid (bk_ne hrd hcb rd_cmd)
        have hcb' := Lib.hid hcb
        have hfw' := Lib.hid hfw
        have hrn' := Lib.hid hrn
        clear hcb hnv hmv hrd hfw hr1 hrn
        go_upto_region 2 with fail
        have FIN := Lib.hid (show ∀ w4, Far (fun k => k = kr) wr.drew w4 → NPost B kr kc c w r0 (.panicked wrongP) w4 from fun w4 hf4 => ⟨hfw'.out.trans ((drew_far wr).mono (G := FR B kr kc) (fun _ _ h => h.elim) |>.trans (hf4.mono (G := FR B kr kc) fun k _ e => .inl e) fun _ _ h => h) fun _ _ h => h, by rw [hrn'.out]; exact ⟨rfl, _, rfl, (hcb'.out.far' (drew_far wr) id).far' hf4 (fun e => hne.out e.symm)⟩⟩)
        go_region_law (refine step_stop rfl 55 #[.pointer (some ⟨kr, 0, none⟩)] ?_ NM.out ?_ ?_; (go_simp); (intro v4 hf4; exact (show _ ∧ _ from ⟨rfl, FIN.out _ hf4⟩)))
        all_goals trivial
      | some p =>
        obtain ⟨x, s2⟩ := p
        have hrn : r0 = namesF (n - (i + 1)) (acc ++ [x]) s2 := by rw [hr1]; conv => lhs; unfold namesF; rw [hx]
        have NM := Lib.hid (name_yes kr s1 s2 x wr.drew (hrd.far' (drew_far _) id) hs1 hx)
        have hs2 := Nat.le_trans (nameF_len hx) hs1
        have hne := bk_ne hrd hcb rd_cmd
        obtain ⟨pi, pz, pi1, pi2, pi3, pi4, pi5⟩ := info3 info_str
        have A7 : 0 < 1 := by decide
        have B4 : acc.length + 1 ≤ maxLen := by unfold maxLen; omega
        have B5 : (acc.length + 1) * 16 ≤ 140737488355328 := by omega
        have hqk := Lib.hid (own_ne hnv hcb str_cmd)
        have hqr := Lib.hid (own_ne hnv hrd str_rd)
        have hqB := Lib.hid (show ∀ k, (Value.slice ao acc.length ac).ownBlock = some k → B ≤ k from fun k e => (hnv.lt k e).1)
        have hqm := Lib.hid (show ∀ k, (Value.slice ao acc.length ac).ownBlock = some k → mv.ownBlock ≠ some k from fun k e => rows_ne hnv hmv str_int e)
        have hmk := Lib.hid (own_ne hmv hcb int_cmd)
        have hmr := Lib.hid (own_ne hmv hrd int_rd)
        have hcb' := Lib.hid hcb
        have hnv' := Lib.hid hnv
        have hmv' := Lib.hid hmv
        have hfw' := Lib.hid hfw
        have hrn' := Lib.hid hrn
        have hne' := Lib.hid hne
        have hal' := Lib.hid hal
        clear hcb hnv hmv hrd hfw hr1 hrn hne hx hal
        go_upto_region 2 with fail
        go_region_law
          (first
            | (refine step_call rfl 55 #[.pointer (some ⟨kr, 0, none⟩)] ?_ (NM.out.mono (fun e w' ⟨h1, h2⟩ => ⟨_, h1, rfl, h2⟩) : Calls _ _ _ _ fun e w' => ∃ v, e = .returned v ∧ (v = .string ⟨x.toArray⟩ ∧ RdB w' kr s2 ∧ Far (fun i => i = kr) wr.drew w')) ?_; (go_simp); rintro v3 v4 ⟨rfl, hr4, hf4⟩; have FW4 := Lib.hid (((drew_far wr).mono (G := fun i => i = kr) fun _ _ h => h.elim).trans hf4 fun _ _ h => h); have hC4 := Lib.hid (hcb'.out.far' FW4.out (fun e => hne'.out e.symm)); have r2 : v4.cell? ⟨kc, 2, none⟩ = some (.slice ao acc.length ac) := hC4.out.cell 2; have hN4 := Lib.hid (row_far hnv'.out FW4.out fun k hk e => by subst e; exact hqr.out hk); have hM4 := Lib.hid (row_far hmv'.out FW4.out fun k hk e => by subst e; exact hmr.out hk); have hR4 := Lib.hid hr4; have l2 : kc < v4.heap.size := hC4.out.lt; have n1 : kc ≠ v4.heap.size := (by omega); have B1' := Lib.hid (hN4.out.alloc (.cells #[.string ⟨x.toArray⟩] 9)); have B2' := Lib.hid (src_new v4 9 [.string ⟨x.toArray⟩]); have B3' := Lib.hid (show ∀ u ∈ [Value.string ⟨x.toArray⟩], u.oneCell' = true by simp [Value.oneCell']); have B6 : B ≤ (v4.alloc (.cells #[.string ⟨x.toArray⟩] 9)).heap.size := (by have := FW4.out.size; simp; omega); clear hr4 hf4)
            | (refine step_app rfl (.tmp 12) (.tmp 15) 24 rfl B 9 pi pz 1 16 Tryd.underlying24 pi1 pi2 pi3 pi4 pi5 A7 (.slice ao acc.length ac) acc.length _ rfl B1'.out (.slice (some ⟨v4.heap.size, 0, none⟩) 1 1) 1 _ rfl B2'.out B3'.out B4 B5 B6 ?_; intro v2 w5 ho5 hg5; obtain ⟨vo2, vc2, rfl⟩ := Src.form (Src.own ho5); have hC5 := Bk.grownR (w := (v4.alloc (.cells #[.string ⟨x.toArray⟩] 9))) (Bk.alloc hC4.out _) hg5 (fun e => hqk.out e.symm); have u0 := hC5.free 2; have u1 : w5.cell? ⟨kc, 2, none⟩ = some (.slice ao acc.length ac) := hC5.cell 2; have ho5' := Lib.hid ho5; have hg5' := Lib.hid hg5; have hC5' := Lib.hid hC5; clear ho5 hg5 hC5))
        all_goals
          have hA4 : Far (fun _ => False) v4 (v4.alloc (.cells #[.string ⟨x.toArray⟩] 9)) := (Far.refl _ v4).alloc _
          have hG5 := Lib.hid (grown_far hg5'.out)
          have hS5 := Lib.hid ((Far.refl (fun k => k = kc) w5).set ⟨kc, 2, none⟩ (.slice vo2 (acc.length + 1) vc2) (fun _ => rfl))
          have hR5 := Lib.hid (((hR4.out.far' hA4 id).far' hG5.out hqr.out).far' hS5.out hne'.out)
          have hN5 := Lib.hid (row_far ho5'.out hS5.out fun k hk e => by subst e; exact own_ne ho5'.out hC5'.out str_cmd hk)
          have hM5 := Lib.hid (row_far (row_far (row_far hM4.out hA4 fun _ _ h => h) hG5.out fun k hk e => hqm.out k e hk) hS5.out fun k hk e => by subst e; exact hmk.out hk)
          have hF5 := Lib.hid (((FW4.out.mono (G := FR B kr kc) fun k _ e => .inl e).trans ((hA4.mono (G := FR B kr kc) fun _ _ h => h.elim).trans (hG5.out.mono (G := FR B kr kc) fun k _ e => .inr (.inr (hqB.out k e))) fun _ _ h => h) fun _ _ h => h).trans (hS5.out.mono (G := FR B kr kc) fun k _ e => .inr (.inl e)) fun _ _ h => h)
          have hC6 := Lib.hid (hC5'.out.set 2 (.slice vo2 (acc.length + 1) vc2))
          clear hA4
          go_wp2_with fail
          go_roundw
          case rel =>
            refine ⟨i + 1, acc ++ [x], s2, by go_num, by omega, hrn'.out, hs2, by rw [List.length_append, hal'.out]; simp; omega, hR5.out, ⟨.slice vo2 (acc.length + 1) vc2, mv, hC6.out, ?_, hM5.out⟩, hfw'.out.trans hF5.out fun _ _ h => h⟩

            rw [List.map_append, List.length_append]
            exact hN5.out
          case measure => simp [intOf]; omega
    · have e1 : decide ((i : Int) < (n : Int)) = false := by rw [decide_eq_false_iff_not]; omega
      have hin : i = n := by omega
      subst hin
      rw [Nat.sub_self] at hr1
      have hr1' := Lib.hid hr1
      have hrd' := Lib.hid hrd
      have hcd' := Lib.hid hcd
      have hfw' := Lib.hid hfw
      clear hr1 hrd hcd hfw
      go_wp2_with fail
      go_end0
      refine ⟨hfw'.out, ?_⟩
      rw [hr1'.out]
      exact ⟨rfl, hrd'.out, hcd'.out⟩
end
end Go.Proofs.YtjmgheogpglpnaaDoor
