/-
  The document's order of productions.
-/
import Derived.Test.YtjkfieilaahejaaSortOk
namespace Go.Proofs.Ytjkfieilaahejaa
open Go.RowKit
set_option linter.unusedVariables false
set_option linter.unusedSimpArgs false
def symL (l : Bool) (n : Int) (l' : Bool) (n' : Int) : Bool := if l = l' then decide (n < n') else l'
theorem symL_cmp (s t : Sy) : symL s.1 s.2 t.1 t.2 = decide (cmpS s t < 0) := by
  obtain ⟨l, n⟩ := s
  obtain ⟨l', n'⟩ := t
  unfold symL cmpS symO cmpI
  cases l <;> cases l' <;> simp <;> (try split) <;> (try split) <;> (try simp) <;> omega
theorem ordP_head {h h' : Int} {l l' : List Sy} (hne : h ≠ h') : decide (ordP (h, l) (h', l') < 0) = decide (h < h') := by
  have h0 : cmpI h h' ≠ 0 := fun e => hne (cmpI_zero e)
  have : ordP (h, l) (h', l') = cmpI h h' := if_pos h0
  rw [this]
  unfold cmpI
  split
  · simp [*]
  · split <;> simp [*]
theorem ordP_len {h : Int} {l l' : List Sy} (hne : l.length ≠ l'.length) : decide (ordP (h, l) (h, l') < 0) = decide (l.length < l'.length) := by
  have h0 : cmpI (l.length : Int) (l'.length : Int) ≠ 0 := fun e => hne (by have := cmpI_zero e; omega)
  have hs : ¬ cmpI h h ≠ 0 := fun e => e (tot_cmpI.same h)
  have : ordP (h, l) (h, l') = cmpI (l.length : Int) (l'.length : Int) := by
    show (if cmpI h h ≠ 0 then _ else _) = _
    rw [if_neg hs]
    exact if_pos h0
  rw [this]
  unfold cmpI
  split
  · simp [*]; omega
  · split <;> simp [*] <;> omega
theorem ordP_body {h : Int} {l l' : List Sy} (hl : l.length = l'.length) : ordP (h, l) (h, l') = cmpL l l' := by
  have hs : ¬ cmpI h h ≠ 0 := fun e => e (tot_cmpI.same h)
  have h2 : ¬ cmpI (l.length : Int) (l'.length : Int) ≠ 0 := fun e => e (by rw [hl]; exact tot_cmpI.same _)
  show (if cmpI h h ≠ 0 then _ else _) = _
  rw [if_neg hs]
  exact if_neg h2
section
set_option maxHeartbeats 4000000
set_option maxRecDepth 100000
theorem symless_any (l : Bool) (n : Int) (l' : Bool) (n' : Int) (w : World) : Calls Try.prog 85 #[.agg #[.bool l, .int .i64 n], .agg #[.bool l', .int .i64 n']] w fun e w' => e = .returned (.bool (symL l n l' n')) ∧ Far (fun _ => False) w w' := by
  have hs : symL l n l' n' = if l = l' then decide (n < n') else l' := rfl
  cases l <;> cases l' <;> simp at hs <;> rw [hs] <;> clear hs
  all_goals
    go_enter Try.func85, Try.ntmps85
    go_wp2_with fail
    go_ret
    exact ⟨rfl, ((Far.refl _ w).alloc _).alloc _⟩
theorem rless_any (h h' : Int) (v v' : Value) (l l' : List Sy) (w : World) (h1 : Body w v l) (h2 : Body w v' l') (hs1 : l.length ≤ maxLen) (hs2 : l'.length ≤ maxLen) :
    Calls Try.prog 71 #[.agg #[.int .i64 h, v], .agg #[.int .i64 h', v']] w fun e w' => e = .returned (.bool (decide (ordP (h, l) (h', l') < 0))) ∧ Far (fun _ => False) w w' := by
  obtain ⟨kA, hkA⟩ : ∃ k, k = w.heap.size := ⟨_, rfl⟩
  obtain ⟨kB, hkB⟩ : ∃ k, k = kA + 1 := ⟨_, rfl⟩
  obtain ⟨ao, ac, rfl⟩ := Src.form h1
  obtain ⟨bo, bc, rfl⟩ := Src.form h2
  obtain ⟨w0, hw0⟩ : ∃ w0, w0 = w.alloc (.cells #[.int .i64 h, .slice ao l.length ac] 44) := ⟨_, rfl⟩
  obtain ⟨w1, hw1⟩ : ∃ w1, w1 = w0.alloc (.cells #[.int .i64 h', .slice bo l'.length bc] 44) := ⟨_, rfl⟩
  have hz0 : w0.heap.size = kB := by rw [hw0]; simp [hkA, hkB]
  have hA : Bk w1 kA 44 #[.int .i64 h, .slice ao l.length ac] := hw1 ▸ ((hw0 ▸ Bk.new hkA : Bk w0 kA 44 #[.int .i64 h, .slice ao l.length ac]).alloc _)
  have hB : Bk w1 kB 44 #[.int .i64 h', .slice bo l'.length bc] := hw1 ▸ Bk.new hz0.symm
  have hF : Far (fun _ => False) w w1 := hw1 ▸ (hw0 ▸ (Far.refl _ w).alloc _ : Far (fun _ => False) w w0).alloc _
  have a0 : w1.cell? ⟨kA, 0, none⟩ = some (.int .i64 h) := hA.cell 0
  have a1 : w1.cell? ⟨kA, 1, none⟩ = some (.slice ao l.length ac) := hA.cell 1
  have b0 : w1.cell? ⟨kB, 0, none⟩ = some (.int .i64 h') := hB.cell 0
  have b1 : w1.cell? ⟨kB, 1, none⟩ = some (.slice bo l'.length bc) := hB.cell 1
  have hQ1 := Lib.hid (h1.move hF)
  have hQ2 := Lib.hid (h2.move hF)
  have hkA' := Lib.hid hkA
  have hkB' := Lib.hid hkB
  have hw0' := Lib.hid hw0
  have hw1' := Lib.hid hw1
  have hz0' := Lib.hid hz0
  have hA' := Lib.hid hA
  have hB' := Lib.hid hB
  have hF' := Lib.hid hF
  unfold maxLen at hs1 hs2
  clear h1 h2 hkA hkB hw0 hw1 hz0 hA hB hF
  go_enter Try.func71, Try.ntmps71
  go_upto_region 1 with fail
  rw [← hkA'.out, ← hkB'.out, ← hw0'.out, ← hw1'.out]
  by_cases hh : h = h'
  · subst hh
    have g0 : (h == h) = true := by simp
    by_cases hl : l.length = l'.length
    · have g1 : ((l.length : Int) == (l'.length : Int)) = true := by simp [hl]
      have hres := Lib.hid (ordP_body (h := h) hl)
      go_wp2_with fail
      clear a0 a1 b0 b1
      go_loopw [5] (fun iv wr => ∃ i : Nat, iv = .int .i64 i ∧ i ≤ l.length ∧ cmpL l l' = cmpL (l.drop i) (l'.drop i) ∧ Far (fun _ => False) w1 wr) (fun iv _ => l.length - (intOf iv).toNat)
      case atStart => exact ⟨0, rfl, Nat.zero_le _, rfl, Far.refl _ _⟩
      case round =>
        obtain ⟨i, rfl, hi, hc, hfw⟩ := hrel
        have a1 : wr.cell? ⟨kA, 1, none⟩ = some (.slice ao l.length ac) := (hA'.out.far' hfw id).cell 1
        have b1 : wr.cell? ⟨kB, 1, none⟩ = some (.slice bo l'.length bc) := (hB'.out.far' hfw id).cell 1
        by_cases hlt : i < l.length
        · have e1 : decide ((i : Int) < (l.length : Int)) = true := by rw [decide_eq_true_eq]; omega
          have hii : (i : Int) < (l.length : Int) := by omega
          have hij : (i : Int) < (l'.length : Int) := by omega
          obtain ⟨s, hs⟩ : ∃ s, l[i]? = some s := ⟨l[i], List.getElem?_eq_getElem hlt⟩
          obtain ⟨t, ht⟩ : ∃ t, l'[i]? = some t := ⟨l'[i]'(by omega), List.getElem?_eq_getElem (by omega)⟩
          obtain ⟨ga, oa, ca, ea, hga, c0, c1⟩ := (hQ1.out.move hfw).sym hs
          obtain ⟨gb, ob, cb, eb, hgb, d0, d1⟩ := (hQ2.out.move hfw).sym ht
          simp only [Value.slice.injEq] at ea eb
          obtain ⟨rfl, _, rfl⟩ := ea
          obtain ⟨rfl, _, rfl⟩ := eb
          have hdr := cmpL_drop hs ht
          obtain ⟨s0, s1⟩ := s
          obtain ⟨t0, t1⟩ := t
          simp only [] at c0 c1 d0 d1
          have EQ := eq_sym s0 s1 t0 t1
          have hfw' := Lib.hid hfw
          by_cases hst : (s0, s1) = (t0, t1)
          · obtain ⟨rfl, rfl⟩ := Prod.mk.inj hst
            rw [show (s0 == s0 && s1 == s1) = true by simp] at EQ
            have hc' := Lib.hid (show cmpL l l' = cmpL (l.drop (i + 1)) (l'.drop (i + 1)) by rw [hc, hdr, if_neg (fun e => e (tot_cmpS.same _))])
            clear hfw hs ht hdr hc hst hl g0 g1
            go_wp2_with fail
            go_quiet (fail)
            go_wp2_with fail
            go_roundw
            case rel => exact ⟨i + 1, by go_num, by omega, hc'.out, hfw'.out.drewN _⟩
            case measure => simp [intOf]; omega
          · rw [show (s0 == t0 && s1 == t1) = false by
              rcases Bool.eq_false_or_eq_true (s0 == t0 && s1 == t1) with e | e
              · rw [Bool.and_eq_true] at e
                exact absurd (by rw [eq_of_beq e.1, eq_of_beq e.2]) hst
              · exact e] at EQ
            have hc0 : cmpS (s0, s1) (t0, t1) ≠ 0 := fun e => hst (cmpS_zero e)
            have hres2 := Lib.hid (show symL s0 s1 t0 t1 = decide (ordP (h, l) (h, l') < 0) by
              rw [hres.out, hc, hdr, if_pos hc0]; exact symL_cmp (s0, s1) (t0, t1))
            have SL := Lib.hid (fun w' => symless_any s0 s1 t0 t1 w')
            have hAr := hA'.out.far' hfw id
            have hBr := hB'.out.far' hfw id
            have HK := Lib.hid (show ∀ w2, Far (fun _ => False) wr w2 → w2.cell? ⟨kA, 1, none⟩ = some (.slice (some ⟨ga, oa, none⟩) l.length ac) ∧ w2.cell? ⟨kB, 1, none⟩ = some (.slice (some ⟨gb, ob, none⟩) l'.length bc) ∧ w2.cell? ⟨ga, oa + i * 2, none⟩ = some (.bool s0) ∧ w2.cell? ⟨ga, oa + i * 2 + 1, none⟩ = some (.int .i64 s1) ∧ w2.cell? ⟨gb, ob + i * 2, none⟩ = some (.bool t0) ∧ w2.cell? ⟨gb, ob + i * 2 + 1, none⟩ = some (.int .i64 t1) from fun w2 hf => ⟨(hAr.far' hf id).cell 1, (hBr.far' hf id).cell 1, (hf.cell hga).trans c0, (hf.cell hga).trans c1, (hf.cell hgb).trans d0, (hf.cell hgb).trans d1⟩)
            clear hfw hs ht hdr hc hst hl g0 g1 hAr hBr hc0
            go_wp2_with fail
            go_quiet (fail)
            go_wp2_with fail
            go_region_held3 (fun w' => w'.cell? ⟨kA, 1, none⟩ = some (.slice (some ⟨ga, oa, none⟩) l.length ac) ∧ w'.cell? ⟨kB, 1, none⟩ = some (.slice (some ⟨gb, ob, none⟩) l'.length bc) ∧ w'.cell? ⟨ga, oa + i * 2, none⟩ = some (.bool s0) ∧ w'.cell? ⟨ga, oa + i * 2 + 1, none⟩ = some (.int .i64 s1) ∧ w'.cell? ⟨gb, ob + i * 2, none⟩ = some (.bool t0) ∧ w'.cell? ⟨gb, ob + i * 2 + 1, none⟩ = some (.int .i64 t1)) (go_keep)
              (first
                | (go_at_call 85; refine (SL.out _).mono ?_; rintro e w9 ⟨rfl, hf9⟩; obtain ⟨r0, r1, r2, r3, r4, r5⟩ := HK.out w9 ((((Far.refl (fun _ => False) wr).drewN _).drew).then hf9); have hf9' := Lib.hid ((((Far.refl (fun _ => False) wr).drewN _).drew).then hf9); clear hf9))
            all_goals
              go_wp2_with fail
              go_ret
              exact ⟨by rw [← hres2.out]; rfl, hF'.out.then (hfw'.out.then hf9'.out)⟩
        · have e1 : decide ((i : Int) < (l.length : Int)) = false := by rw [decide_eq_false_iff_not]; omega
          have hfw' := Lib.hid hfw
          have hres2 := Lib.hid (show decide (ordP (h, l) (h, l') < 0) = false by
            rw [hres.out, hc, List.drop_eq_nil_of_le (by omega), List.drop_eq_nil_of_le (by omega)]; rfl)
          clear hfw hc hl g0 g1
          go_wp2_with fail
          go_ret
          exact ⟨by rw [hres2.out]; rfl, hF'.out.then hfw'.out⟩
    · have g1 : ((l.length : Int) == (l'.length : Int)) = false := by simp; omega
      have hres := Lib.hid (ordP_len (h := h) hl)
      clear hl
      go_wp2_with fail
      go_ret
      exact ⟨by rw [hres.out]; rfl, hF'.out⟩
  · have g0 : (h == h') = false := by simpa using hh
    have hres := Lib.hid (ordP_head (l := l) (l' := l') hh)
    clear hh
    go_wp2_with fail
    go_ret
    exact ⟨by rw [hres.out]; rfl, hF'.out⟩
end
end Go.Proofs.Ytjkfieilaahejaa
