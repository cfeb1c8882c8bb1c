/-
  begin: a short body: the pieces that it makes.
-/
import Derived.Test.YteojbnkjphghkaaDoorGoOn15
import Derived.Test.YteojbnkjphghkaaDoorMakes15
namespace Go.Proofs.YteojbnkjphghkaaDoor
open Go.RowKit
set_option linter.unusedVariables false
set_option linter.unusedSimpArgs false
theorem makes_to {l : List Sy} {W : List Int} {i j : Nat} (h : makesB l W i j = true) : i ≤ j ∧ (l.length ≤ 1 → j ≤ i + 1) := by
  unfold makesB at h
  split at h
  · simp at h; omega
  · simp at h; omega
theorem Src.farF {w w' : World} {F : Nat → Prop} {sz m : Nat} {v : Value} {xs : List Value} (h : Src w sz v m xs) (hf : Far F w w') (hF : ∀ a n c, v = .slice (some a) n c → 0 < xs.length → ¬ F a.block) : Src w' sz v m xs := by
  obtain ⟨h1, h2 | ⟨a, c, rfl, h2⟩⟩ := h
  · exact ⟨h1, .inl h2⟩
  · refine ⟨h1, .inr ⟨a, c, rfl, fun j u hu => ?_⟩⟩
    obtain ⟨hb, hc⟩ := h2 j u hu
    have h0 : 0 < xs.length := by have := (List.getElem?_eq_some_iff.1 hu).1; omega
    exact ⟨Nat.lt_of_lt_of_le hb hf.size, (cell_eq (by rw [add_block]; exact hf.block _ hb (hF _ _ _ rfl h0))).trans hc⟩
/-- What begin keeps at a short body. -/
structure BS (w W : World) (kB eB gB B S : Nat) (pv wv lv fv rv0 : Value) (h : Nat) (hd : Int) (bv : Value) (D : Pc → Prop) (Wo : List Int) (K0 : List Pc) (rv : Value) (E G : Ends) (K : List Pc) : Prop where
  ch : Ch W kB eB gB B S Wo.length pv wv lv fv rv E G K
  x : Bk W h 48 #[.int .i64 hd, bv]
  far : Far (ChF kB eB gB rv0) w W
  own : ∀ k, rv.ownBlock = some k → rv0.ownBlock = some k ∨ w.heap.size ≤ k
  pre : K0 <+: K
  d : ∀ q ∈ K, D q
section
variable {w W W' : World} {kB eB gB B S : Nat} {pv wv lv fv rv0 : Value} {h : Nat} {hd : Int} {bv : Value} {D : Pc → Prop} {Wo : List Int} {K0 : List Pc} {rv : Value} {E G : Ends} {K : List Pc}
theorem BS.move (b : BS w W kB eB gB B S pv wv lv fv rv0 h hd bv D Wo K0 rv E G K) (hf : Far (fun _ => False) W W') : BS w W' kB eB gB B S pv wv lv fv rv0 h hd bv D Wo K0 rv E G K :=
  ⟨b.ch.move hf, b.x.far' hf id, b.far.trans (hf.mono (G := ChF kB eB gB rv0) fun _ _ q => q.elim) fun _ _ q => q, b.own, b.pre, b.d⟩
theorem BS.add {rv' : Value} {E' G' : Ends} {p : Pc} (b : BS w W kB eB gB B S pv wv lv fv rv0 h hd bv D Wo K0 rv E G K) (hC : Ch W' kB eB gB B S Wo.length pv wv lv fv rv' E' G' (addK K p)) (hf : Far (ChF kB eB gB rv) W W') (ho : ∀ k, rv'.ownBlock = some k → rv.ownBlock = some k ∨ W.heap.size ≤ k) (hp : D p) :
    BS w W' kB eB gB B S pv wv lv fv rv0 h hd bv D Wo K0 rv' E' G' (addK K p) := by
  refine ⟨hC, b.x.far' hf (b.ch.other b.x (by decide) (by decide)), b.far.trans hf fun k hk q => ?_, fun k hk => ?_, b.pre.trans (addK_pre K p), fun q hq => ?_⟩
  · rcases q with e | e | e | e
    · exact .inl e
    · exact .inr (.inl e)
    · exact .inr (.inr (.inl e))
    · rcases b.own k e with e | e
      · exact .inr (.inr (.inr e))
      · omega
  · rcases ho k hk with e | e
    · exact b.own k e
    · exact .inr (Nat.le_trans b.far.size e)
  · rcases addK_mem.1 hq with hq | rfl
    · exact b.d q hq
    · exact hp
end
section
set_option maxHeartbeats 8000000
set_option maxRecDepth 100000
theorem begin_short (kB eB gB B S : Nat) (pv wv lv fv rv bv : Value) (E G : Ends) (K : List Pc) (P : List Hb) (hd : Int) (l : List Sy) (Wo : List Int) (D : Pc → Prop) (w : World)
    (hC : Ch w kB eB gB B S Wo.length pv wv lv fv rv E G K) (hB : Body w bv l) (hW : WdM w wv Wo) (hBk : ∀ a n c, bv = .slice (some a) n c → l ≠ [] → a.block < B ∧ a.block ≠ kB ∧ a.block ≠ eB ∧ a.block ≠ gB) (hWk : ∀ a n c, wv = .slice (some a) n c → Wo ≠ [] → a.block < B ∧ a.block ≠ kB ∧ a.block ≠ eB ∧ a.block ≠ gB)
    (hl : l.length ≤ 1) (hS : S ≤ 1024) (hh : 0 ≤ hd ∧ hd < S) (hn : Wo.length ≤ 64) (hD : ∀ q ∈ K, D q) (hDm : ∀ i j : Nat, i ≤ Wo.length → j ≤ Wo.length → makesB l Wo i j = true → D (hd, i, j)) :
    Calls Tryd.prog 46 #[.pointer (some ⟨kB, 0, none⟩), .agg #[.int .i64 hd, bv]] w fun e w' => e = .returned (.tuple #[]) ∧ ∃ rv' E' G' K', Ch w' kB eB gB B S Wo.length pv wv lv fv rv' E' G' K' ∧ K <+: K' ∧ (∀ q ∈ K', D q) ∧ (∀ i j : Nat, i ≤ Wo.length → j ≤ Wo.length → makesB l Wo i j = true → (hd, i, j) ∈ K') ∧ Far (ChF kB eB gB rv) w w' ∧ (∀ k, rv'.ownBlock = some k → rv.ownBlock = some k ∨ w.heap.size ≤ k) := by
  obtain ⟨n, hn0⟩ : ∃ n, n = Wo.length := ⟨_, rfl⟩
  obtain ⟨ro, rc, rfl⟩ := Src.form (Src.own hC.row)
  have hrB : ∀ k, (Value.slice ro K.length rc).ownBlock = some k → B ≤ k := fun k e => (hC.row.lt k e).1
  obtain ⟨rv, hrv⟩ : ∃ v, v = Value.slice ro K.length rc := ⟨_, rfl⟩
  rw [← hrv] at hC hrB ⊢
  clear hrv
  obtain ⟨bo, bc, rfl⟩ := Src.form hB
  obtain ⟨wo', wc', rfl⟩ := Src.form hW
  have HB := Lib.hid (fun W' (hf : Far (ChF kB eB gB rv) w W') => Src.farF hB hf fun a m c e h0 q => by
    obtain ⟨k1, k2, k3, k4⟩ := hBk a m c e (fun e => by subst e; simp [scells] at h0)
    rcases q with q | q | q | q
    · exact k2 q
    · exact k3 q
    · exact k4 q
    · have := hrB _ q; omega)
  have HW := Lib.hid (fun W' (hf : Far (ChF kB eB gB rv) w W') => Src.farF hW hf fun a m c e h0 q => by
    obtain ⟨k1, k2, k3, k4⟩ := hWk a m c e (fun e => by subst e; simp [wcells] at h0)
    rcases q with q | q | q | q
    · exact k2 q
    · exact k3 q
    · exact k4 q
    · have := hrB _ q; omega)
  obtain ⟨h, hh0⟩ : ∃ h, h = w.heap.size := ⟨_, rfl⟩
  obtain ⟨W, hW0⟩ : ∃ W, W = w.alloc (.cells #[.int .i64 hd, .slice bo l.length bc] 48) := ⟨_, rfl⟩
  have hF : Far (fun _ => False) w W := hW0 ▸ afar _ _
  have hS0 := Lib.hid (show BS w W kB eB gB B S pv (.slice wo' Wo.length wc') lv fv rv h hd (.slice bo l.length bc) D Wo K rv E G K from ⟨hC.move hF, hW0 ▸ Bk.new hh0, hF.mono fun _ _ q => q.elim, fun k q => .inl q, List.prefix_rfl, hD⟩)
  have hne2 : ((l.length : Int) == 2) = false := by rw [beq_eq_false_iff_ne]; omega
  have x1 : W.cell? ⟨h, 1, none⟩ = some (.slice bo l.length bc) := hS0.out.x.cell 1
  have k1 : W.cell? ⟨kB, 2, none⟩ = some (.slice wo' n wc') := by rw [hn0]; exact hS0.out.ch.box.cell 2
  have hh' := Lib.hid (show w.heap.size = h by omega)
  have hW' := Lib.hid hW0
  have hDm' := Lib.hid hDm
  have hn0' := Lib.hid hn0
  have hn' : n ≤ 64 := by omega
  clear hC hB hW hBk hWk hD hDm hW0 hh0 hF hrB hn0 hn
  go_enter Tryd.func46, Tryd.ntmps46
  go_upto_region 1 with fail
  rw [hh'.out, ← hW'.out]
  go_wp2_with fail
  clear x1 k1
  go_loopw [66] (fun iv wr => ∃ (i : Nat) (rv1 : Value) (E1 G1 : Ends) (K1 : List Pc), iv = .int .i64 i ∧ i ≤ n + 1 ∧ BS w wr kB eB gB B S pv (.slice wo' Wo.length wc') lv fv rv h hd (.slice bo l.length bc) D Wo K rv1 E1 G1 K1 ∧ (∀ i' j' : Nat, i' < i → j' ≤ n → makesB l Wo i' j' = true → (hd, i', j') ∈ K1)) (fun iv _ => n + 1 - (intOf iv).toNat)
  case atStart => exact ⟨0, rv, E, G, K, rfl, Nat.zero_le _, hS0.out, fun i' j' h => absurd h (Nat.not_lt_zero _)⟩
  case round =>
    clear hS0
    obtain ⟨i, rv1, E1, G1, K1, rfl, hi, hS1, hM⟩ := hrel
    have hS1' := Lib.hid hS1
    have hM' := Lib.hid hM
    clear hS1 hM
    by_cases hlt : i < n + 1
    · have e1 : decide ((i : Int) < (n : Int) + 1) = true := by rw [decide_eq_true_eq]; omega
      obtain ⟨wo, hwo⟩ : ∃ W, W = wr := ⟨_, rfl⟩
      rw [← hwo] at hS1' ⊢
      clear hwo
      go_wp2_with fail
      go_loopw [7] (fun jv wr => ∃ (j : Nat) (rv2 : Value) (E2 G2 : Ends) (K2 : List Pc), jv = .int .i64 j ∧ i ≤ j ∧ j ≤ n + 1 ∧ BS w wr kB eB gB B S pv (.slice wo' Wo.length wc') lv fv rv h hd (.slice bo l.length bc) D Wo K rv2 E2 G2 K2 ∧ K1 <+: K2 ∧ (∀ j' : Nat, j' < j → j' ≤ n → makesB l Wo i j' = true → (hd, i, j') ∈ K2)) (fun jv _ => n + 1 - (intOf jv).toNat)
      case atStart => exact ⟨i, rv1, E1, G1, K1, rfl, Nat.le_refl _, by omega, hS1'.out, List.prefix_rfl, fun j' h1 _ h3 => absurd (makes_to h3).1 (by omega)⟩
      case round =>
        obtain ⟨j, rv2, E2, G2, K2, rfl, hij, hjn, hS2, hK2, hN⟩ := hrel
        have hS2' := Lib.hid hS2
        have hK2' := Lib.hid hK2
        have hN' := Lib.hid hN
        have k1 : wr.cell? ⟨kB, 2, none⟩ = some (.slice wo' n wc') := by rw [hn0'.out]; exact hS2.ch.box.cell 2
        clear hS2 hK2 hN
        by_cases hmn : i < n
        · have m1 : (i : Int) + 1 ≤ (n : Int) := by omega
          have m2 : decide ((i : Int) + 1 ≤ (n : Int)) = true := by rw [decide_eq_true_eq]; omega
          by_cases hin : j ≤ i + 1
          · have e2 : decide ((j : Int) ≤ (i : Int) + 1) = true := by rw [decide_eq_true_eq]; omega
            have hbd := HB.out wr hS2'.out.far
            have hwd := HW.out wr hS2'.out.far
            have hmk := Lib.hid (show ∀ w', Far (fun _ => False) wr w' → Calls Tryd.prog 27 #[.slice bo l.length bc, .slice wo' n wc', .int .i64 (i : Int), .int .i64 (j : Int)] w' fun e w'' => e = .returned (.bool (makesB l Wo i j)) ∧ Far (fun _ => False) w' w'' from fun w' hf => by
              have h9 := makes_any (.slice bo l.length bc) (.slice wo' Wo.length wc') l Wo i j w' (Src.move hbd hf) (Src.move hwd hf) hl (by omega) (by have := hn0'.out; omega) (by have := hn0'.out; omega)
              rwa [← hn0'.out] at h9)
            have HK := Lib.hid (show ∀ w', Far (fun _ => False) wr w' → w'.cell? ⟨h, 1, none⟩ = some (.slice bo l.length bc) ∧ w'.cell? ⟨kB, 2, none⟩ = some (.slice wo' n wc') from fun w' hf => ⟨(hS2'.out.x.far' hf id).cell 1, by rw [hn0'.out]; exact (hS2'.out.ch.box.far' hf id).cell 2⟩)
            clear hbd hwd
            go_upto_region 11 with fail
            clear k1
            go_region_held3 (fun w' => w'.cell? ⟨h, 1, none⟩ = some (.slice bo l.length bc) ∧ w'.cell? ⟨kB, 2, none⟩ = some (.slice wo' n wc')) (first | exact HK.out _ hf8'.out | exact HK.out _ (drew_far wr))
              (first
                | (go_at_call 27; refine (hmk.out _ (drew_far wr)).mono ?_; rintro e w8 ⟨rfl, hf8⟩; have hf8' := Lib.hid ((drew_far wr).then hf8); clear hf8))
            have hS8 := Lib.hid (hS2'.out.move hf8'.out)
            cases hmb : makesB l Wo i j with
            | true =>
              have hPc : PcIn S Wo.length (hd, i, j) := ⟨hh, hij, by have := hn0'.out; show j ≤ Wo.length; omega⟩
              have AD := cadd_any kB eB gB B S Wo.length pv (.slice wo' Wo.length wc') lv fv rv2 E2 G2 K2 hd i j w8 hS8.out.ch hPc hS (by have := hn0'.out; omega)
              have x0 : w8.cell? ⟨h, 0, none⟩ = some (.int .i64 hd) := hS8.out.x.cell 0
              have hDp := Lib.hid (hDm'.out i j (by have := hn0'.out; omega) (by have := hn0'.out; omega) hmb)
              clear hPc
              go_wp2_with (go_at_call 67; refine AD.mono ?_; rintro e w9 ⟨rv3, E3, G3, rfl, hC3, hf3, ho3⟩; have hC3' := Lib.hid hC3; have hf3' := Lib.hid hf3; have ho3' := Lib.hid ho3; clear hC3 hf3 ho3)
              go_roundw
              case rel =>
                refine ⟨j + 1, rv3, E3, G3, _, by go_num, by omega, by omega, hS8.out.add hC3'.out hf3'.out ho3'.out hDp.out, hK2'.out.trans (addK_pre _ _), fun j' h1 h2 h3 => ?_⟩
                by_cases hjj : j' = j
                · rw [hjj]; exact addK_mem.2 (.inr rfl)
                · exact addK_mem.2 (.inl (hN'.out j' (by omega) h2 h3))
              case measure => simp [intOf]; omega
            | false =>
              go_wp2_with fail
              go_roundw
              case rel =>
                refine ⟨j + 1, rv2, E2, G2, K2, by go_num, by omega, by omega, hS8.out, hK2'.out, fun j' h1 h2 h3 => ?_⟩
                by_cases hjj : j' = j
                · rw [hjj, hmb] at h3; cases h3
                · exact hN'.out j' (by omega) h2 h3
              case measure => simp [intOf]; omega
          · have e2 : decide ((j : Int) ≤ (i : Int) + 1) = false := by rw [decide_eq_false_iff_not]; omega
            go_wp2_with fail
            go_roundw
            case rel =>
              refine ⟨i + 1, rv2, E2, G2, K2, by go_num, by omega, hS2'.out, fun i' j' h1 h2 h3 => ?_⟩
              by_cases hii : i' = i
              · subst hii
                exact hN'.out j' (by have := (makes_to h3).2 hl; omega) h2 h3
              · exact hK2'.out.subset (hM'.out i' j' (by omega) h2 h3)
            case measure => simp [intOf]; omega
        · have m1 : ¬ (i : Int) + 1 ≤ (n : Int) := by omega
          have m3 : (n : Int) < (i : Int) + 1 := by omega
          by_cases hin : j ≤ n
          · have e2 : decide ((j : Int) ≤ (n : Int)) = true := by rw [decide_eq_true_eq]; omega
            have e3 : decide (j ≤ n) = true := by rw [decide_eq_true_eq]; omega
            have hbd := HB.out wr hS2'.out.far
            have hwd := HW.out wr hS2'.out.far
            have hmk := Lib.hid (show ∀ w', Far (fun _ => False) wr w' → Calls Tryd.prog 27 #[.slice bo l.length bc, .slice wo' n wc', .int .i64 (i : Int), .int .i64 (j : Int)] w' fun e w'' => e = .returned (.bool (makesB l Wo i j)) ∧ Far (fun _ => False) w' w'' from fun w' hf => by
              have h9 := makes_any (.slice bo l.length bc) (.slice wo' Wo.length wc') l Wo i j w' (Src.move hbd hf) (Src.move hwd hf) hl (by omega) (by have := hn0'.out; omega) (by have := hn0'.out; omega)
              rwa [← hn0'.out] at h9)
            have HK := Lib.hid (show ∀ w', Far (fun _ => False) wr w' → w'.cell? ⟨h, 1, none⟩ = some (.slice bo l.length bc) ∧ w'.cell? ⟨kB, 2, none⟩ = some (.slice wo' n wc') from fun w' hf => ⟨(hS2'.out.x.far' hf id).cell 1, by rw [hn0'.out]; exact (hS2'.out.ch.box.far' hf id).cell 2⟩)
            clear hbd hwd
            go_upto_region 11 with fail
            clear k1
            go_region_held3 (fun w' => w'.cell? ⟨h, 1, none⟩ = some (.slice bo l.length bc) ∧ w'.cell? ⟨kB, 2, none⟩ = some (.slice wo' n wc')) (first | exact HK.out _ hf8'.out | exact HK.out _ (drew_far wr))
              (first
                | (go_at_call 27; refine (hmk.out _ (drew_far wr)).mono ?_; rintro e w8 ⟨rfl, hf8⟩; have hf8' := Lib.hid ((drew_far wr).then hf8); clear hf8))
            have hS8 := Lib.hid (hS2'.out.move hf8'.out)
            cases hmb : makesB l Wo i j with
            | true =>
              have hPc : PcIn S Wo.length (hd, i, j) := ⟨hh, hij, by have := hn0'.out; show j ≤ Wo.length; omega⟩
              have AD := cadd_any kB eB gB B S Wo.length pv (.slice wo' Wo.length wc') lv fv rv2 E2 G2 K2 hd i j w8 hS8.out.ch hPc hS (by have := hn0'.out; omega)
              have x0 : w8.cell? ⟨h, 0, none⟩ = some (.int .i64 hd) := hS8.out.x.cell 0
              have hDp := Lib.hid (hDm'.out i j (by have := hn0'.out; omega) (by have := hn0'.out; omega) hmb)
              clear hPc
              go_wp2_with (go_at_call 67; refine AD.mono ?_; rintro e w9 ⟨rv3, E3, G3, rfl, hC3, hf3, ho3⟩; have hC3' := Lib.hid hC3; have hf3' := Lib.hid hf3; have ho3' := Lib.hid ho3; clear hC3 hf3 ho3)
              go_roundw
              case rel =>
                refine ⟨j + 1, rv3, E3, G3, _, by go_num, by omega, by omega, hS8.out.add hC3'.out hf3'.out ho3'.out hDp.out, hK2'.out.trans (addK_pre _ _), fun j' h1 h2 h3 => ?_⟩
                by_cases hjj : j' = j
                · rw [hjj]; exact addK_mem.2 (.inr rfl)
                · exact addK_mem.2 (.inl (hN'.out j' (by omega) h2 h3))
              case measure => simp [intOf]; omega
            | false =>
              go_wp2_with fail
              go_roundw
              case rel =>
                refine ⟨j + 1, rv2, E2, G2, K2, by go_num, by omega, by omega, hS8.out, hK2'.out, fun j' h1 h2 h3 => ?_⟩
                by_cases hjj : j' = j
                · rw [hjj, hmb] at h3; cases h3
                · exact hN'.out j' (by omega) h2 h3
              case measure => simp [intOf]; omega
          · have e2 : decide ((j : Int) ≤ (n : Int)) = false := by rw [decide_eq_false_iff_not]; omega
            have e3 : decide (j ≤ n) = false := by rw [decide_eq_false_iff_not]; omega
            go_wp2_with fail
            go_roundw
            case rel =>
              refine ⟨i + 1, rv2, E2, G2, K2, by go_num, by omega, hS2'.out, fun i' j' h1 h2 h3 => ?_⟩
              by_cases hii : i' = i
              · subst hii
                exact hN'.out j' (by have := (makes_to h3).2 hl; omega) h2 h3
              · exact hK2'.out.subset (hM'.out i' j' (by omega) h2 h3)
            case measure => simp [intOf]; omega
    · have e1 : decide ((i : Int) < (n : Int) + 1) = false := by rw [decide_eq_false_iff_not]; omega
      have hfin := Lib.hid (show ∀ i j : Nat, i ≤ Wo.length → j ≤ Wo.length → makesB l Wo i j = true → (hd, i, j) ∈ K1 from fun i' j' h1 h2 h3 => hM'.out i' j' (by have := hn0'.out; omega) (by have := hn0'.out; omega) h3)
      go_wp2_with fail
      refine bodyPost_end (results_none rfl _ _ _) rfl ?_
      exact ⟨rfl, rv1, E1, G1, K1, hS1'.out.ch, hS1'.out.pre, hS1'.out.d, hfin.out, hS1'.out.far, hS1'.out.own⟩
end
end Go.Proofs.YteojbnkjphghkaaDoor
