/-
  WcnfParts walked.
-/
import Derived.Test.YtfgoghmhjbhbiaaSameBody
namespace Go.Proofs.Ytfgoghmhjbhbiaa
open Go.RowKit
set_option linter.unusedVariables false
set_option linter.unusedSimpArgs false
theorem filt_pl {p : Tr → Bool} {q : Int × List Sy → Bool} (h : ∀ t, p t = q (pl t)) (T : List Tr) : (T.filter p).map pl = (T.map pl).filter q := by
  rw [List.filter_map]
  have : q ∘ pl = p := funext fun t => (h t).symm
  rw [this]
theorem filt_at {α : Type} {T : List α} {n : Nat} {t : α} {p : α → Bool} (hT : T[n]? = some t) (hp : p t = true) : (T.filter p)[((T.take n).filter p).length]? = some t := by
  have hl := (List.getElem?_eq_some_iff.1 hT).1
  have e : T = T.take n ++ t :: T.drop (n + 1) := by
    have h1 := List.take_append_drop n T
    rw [List.drop_eq_getElem_cons hl, (List.getElem?_eq_some_iff.1 hT).2] at h1
    exact h1.symm
  have e2 : T.filter p = (T.take n).filter p ++ (t :: T.drop (n + 1)).filter p := by rw [← List.filter_append, ← e]
  rw [e2, List.getElem?_append_right (Nat.le_refl _), Nat.sub_self, List.filter_cons_of_pos hp]
  rfl
theorem filt_len {α : Type} {T : List α} {n : Nat} {t : α} {p : α → Bool} (hT : T[n]? = some t) : ((T.take (n + 1)).filter p).length = ((T.take n).filter p).length + (if p t then 1 else 0) := by
  have hl := (List.getElem?_eq_some_iff.1 hT).1
  rw [List.take_succ_eq_append_getElem hl, (List.getElem?_eq_some_iff.1 hT).2, List.filter_append, List.length_append]
  cases h : p t <;> simp [h]
theorem map_at {T6 : List Tr} {L : List (Int × List Sy)} {j : Nat} {x : Int × List Sy} (h : T6.map pl = L) (hx : L[j]? = some x) : ∃ t6, T6[j]? = some t6 ∧ pl t6 = x := by
  rw [← h, List.getElem?_map] at hx
  cases h6 : T6[j]? with
  | none => rw [h6] at hx; cases hx
  | some t6 => rw [h6] at hx; exact ⟨t6, rfl, Option.some.inj hx⟩
theorem weak_pl {S : Int} {T T' : List Tr} (h : T'.map pl = T.map pl) (hw : WeakP S T) : WeakP S T' := by
  have key : ∀ t ∈ T', ∃ u ∈ T, pl u = pl t := fun t ht => by
    have : pl t ∈ T.map pl := by rw [← h]; exact List.mem_map_of_mem ht
    obtain ⟨u, hu, e⟩ := List.mem_map.1 this
    exact ⟨u, hu, e⟩
  refine ⟨⟨hw.1.1, fun t ht => ?_⟩, fun t ht => ?_⟩
  · obtain ⟨u, hu, e⟩ := key t ht
    have h1 : u.1 = t.1 := show (pl u).1 = (pl t).1 by rw [e]
    have h2 : u.2.2 = t.2.2 := show (pl u).2 = (pl t).2 by rw [e]
    have := hw.1.2 u hu
    unfold prodOK at *
    rwa [h1, h2] at this
  · obtain ⟨u, hu, e⟩ := key t ht
    have h2 : u.2.2 = t.2.2 := show (pl u).2 = (pl t).2 by rw [e]
    have := hw.2 u hu
    rwa [h2] at this
/-- The lists that Parts tells, of the productions themselves. -/
structure Told (w : World) (T : List Tr) (hv lv qv : Value) (H : List Int) (T6 T7 : List Tr) : Prop where
  hs : Src w 1 hv H.length (hcells H)
  ls : Prods w lv T6
  ps : Prods w qv T7
  eh : H = (T.filter zeroL).map (·.1)
  el : T6.map pl = (T.filter oneL).map pl
  ep : T7.map pl = (T.filter twoL).map pl
def zq (x : Int × List Sy) : Bool := x.2.length == 0
def oq (x : Int × List Sy) : Bool := x.2.length == 1
def dq (x : Int × List Sy) : Bool := !(x.2.length == 0) && !(x.2.length == 1)
theorem told_of {w : World} {B : Nat} {T T' : List Tr} {hv lv qv : Value} {H : List Int} {T6 T7 : List Tr} (h : PSt w B T' T'.length hv lv qv H T6 T7) (hm : T'.map pl = T.map pl) : Told w T hv lv qv H T6 T7 := by
  have z : ∀ t, zeroL t = zq (pl t) := fun _ => rfl
  have o : ∀ t, oneL t = oq (pl t) := fun _ => rfl
  have d : ∀ t, twoL t = dq (pl t) := fun _ => rfl
  have m1 : ∀ l : List Tr, l.map (·.1) = (l.map pl).map (·.1) := fun l => by rw [List.map_map]; rfl
  refine ⟨Src.own h.hs, h.ls.prods, h.ps.prods, ?_, ?_, ?_⟩
  · rw [h.eh, List.take_length, m1, m1, filt_pl z, filt_pl z, hm]
  · rw [h.el, List.take_length, filt_pl o, filt_pl o, hm]
  · rw [h.ep, List.take_length, filt_pl d, filt_pl d, hm]
theorem Told.move {w w' : World} {T : List Tr} {hv lv qv : Value} {H : List Int} {T6 T7 : List Tr} (h : Told w T hv lv qv H T6 T7) (hf : Far (fun _ => False) w w') : Told w' T hv lv qv H T6 T7 := ⟨Src.move h.hs hf, h.ls.move hf, h.ps.move hf, h.eh, h.el, h.ep⟩
theorem lens_pl {T T' : List Tr} (h : T'.map pl = T.map pl) {n : Nat} (hs : ∀ t ∈ T, t.2.2.length * 16 ≤ n) : ∀ t ∈ T', t.2.2.length * 16 ≤ n := fun t ht => by
  have : pl t ∈ T.map pl := by rw [← h]; exact List.mem_map_of_mem ht
  obtain ⟨u, hu, e⟩ := List.mem_map.1 this
  have h2 : u.2.2 = t.2.2 := show (pl u).2 = (pl t).2 by rw [e]
  rw [← h2]; exact hs u hu
section
set_option maxHeartbeats 4000000
set_option maxRecDepth 100000
theorem wcnf_no (S : Int) (pv : Value) (T : List Tr) (w : World) (hP : Prods w pv T) (hs : T.length * 32 ≤ 140737488351232) (hs2 : ∀ t ∈ T, t.2.2.length * 16 ≤ 140737488351232) (hW : ¬ WeakP S T) :
    Calls Try.prog 7 #[.agg #[.int .i64 S, pv]] w fun e w' => e = .returned (.bool true) ∧ Far (fun _ => False) w w' := by
  obtain ⟨h, hh⟩ : ∃ h, h = w.heap.size := ⟨_, rfl⟩
  obtain ⟨ao, pc, rfl⟩ := Src.form hP.1
  obtain ⟨w1, hw1⟩ : ∃ w1, w1 = w.alloc (.cells #[.int .i64 S, .slice ao T.length pc] 24) := ⟨_, rfl⟩
  have hA : Bk w1 h 24 #[.int .i64 S, .slice ao T.length pc] := hw1 ▸ Bk.new hh
  have hF : Far (fun _ => False) w w1 := hw1 ▸ (Far.refl _ w).alloc _
  have a0 : w1.cell? ⟨h, 0, none⟩ = some (.int .i64 S) := hA.cell 0
  have a1 : w1.cell? ⟨h, 1, none⟩ = some (.slice ao T.length pc) := hA.cell 1
  have hm1 : T.length ≤ maxLen := by unfold maxLen; omega
  have hm2 : ∀ t ∈ T, t.2.2.length ≤ maxLen := fun t ht => by have := hs2 t ht; unfold maxLen; omega
  have hm : ∀ T' : List Tr, T'.map pl = T.map pl → T'.length ≤ maxLen ∧ ∀ t ∈ T', t.2.2.length ≤ maxLen := fun T' h => ⟨by have := congrArg List.length h; simp only [List.length_map] at this; rw [this]; exact hm1, fun t ht => by have := lens_pl h hs2 t ht; unfold maxLen; omega⟩
  have CP := Lib.hid (fun w' (hf : Far (fun _ => False) w1 w') => copy_any S (.slice ao T.length pc) T w' ((hP.move hF).move hf) hs hs2)
  have RI := Lib.hid (fun w' (hf : Far (fun _ => False) w1 w') => ris_any S (.slice ao T.length pc) T w' ((hP.move hF).move hf) hm1 hm2)
  have hm' := Lib.hid hm
  have hh' := Lib.hid hh
  have hw1' := Lib.hid hw1
  have hF' := Lib.hid hF
  have hA' := Lib.hid hA
  have hW' := Lib.hid hW
  have hWp := Lib.hid (show ∀ T' : List Tr, T'.map pl = T.map pl → ¬ WeakP S T' from fun T' h hw => hW (weak_pl h.symm hw))
  have C1 := CP.out w1 (Far.refl _ _)
  clear hP hs hs2 hh hw1 hF hA hW hm1 hm2 hm
  go_enter Try.func7, Try.ntmps7
  go_upto_region 1 with fail
  rw [← hh'.out, ← hw1'.out]
  go_wp2_with fail
  refine C1.mono ?_
  rintro e w2 ⟨pv2, T2, rfl, ho2, hpl2, hf2⟩
  have I2 := is_any S pv2 T2 w2 ho2.prods (hm'.out _ hpl2).1 (hm'.out _ hpl2).2
  have hno2 := Lib.hid (hWp.out _ hpl2)
  have hf2' := Lib.hid hf2
  clear C1 a0 a1 ho2 hpl2 hf2
  go_wp2_with fail
  refine I2.mono ?_
  rintro e w3 ⟨⟨b, rfl, hb⟩, hf3⟩
  obtain rfl : b = false := by
    cases b with
    | false => rfl
    | true => exact absurd (hb.1 rfl) hno2.out
  have hf3' := Lib.hid (hf2'.out.then hf3)
  have C3 := CP.out w3 hf3'.out
  have a0 : w3.cell? ⟨h, 0, none⟩ = some (.int .i64 S) := (hA'.out.far' hf3'.out id).cell 0
  have a1 : w3.cell? ⟨h, 1, none⟩ = some (.slice ao T.length pc) := (hA'.out.far' hf3'.out id).cell 1
  clear I2 hb hf3
  go_wp2_with fail
  refine C3.mono ?_
  rintro e w4 ⟨pv4, T4, rfl, ho4, hpl4, hf4⟩
  have P4 := parts_no S pv4 T4 w4 ho4.prods (hm'.out _ hpl4).1 (hm'.out _ hpl4).2 (hWp.out _ hpl4)
  have hf4' := Lib.hid (hf3'.out.then hf4)
  clear C3 a0 a1 ho4 hpl4 hf4
  go_wp2_with fail
  refine P4.mono ?_
  rintro e w5 ⟨rfl, hf5⟩
  have hf5' := Lib.hid (hf4'.out.then hf5)
  clear P4 hf5
  go_wp2_with fail
  refine (head14_any _).mono ?_
  rintro e w6 ⟨rfl, hf6⟩
  have hf6' := Lib.hid (hf5'.out.then hf6)
  have R6 := RI.out w6 hf6'.out
  have a0 : w6.cell? ⟨h, 0, none⟩ = some (.int .i64 S) := (hA'.out.far' hf6'.out id).cell 0
  have a1 : w6.cell? ⟨h, 1, none⟩ = some (.slice ao T.length pc) := (hA'.out.far' hf6'.out id).cell 1
  clear hf6
  go_wp2_with fail
  refine R6.mono ?_
  rintro e w7 ⟨⟨b, rfl, hb⟩, hf7⟩
  obtain rfl : b = false := by
    cases b with
    | false => rfl
    | true => exact absurd (hb.1 rfl) hW'.out
  have hf7' := Lib.hid (hf6'.out.then hf7)
  clear R6 hb hf7 a0 a1
  go_wp2_with fail
  go_ret
  exact ⟨rfl, hF'.out.then hf7'.out⟩
theorem wcnf_yes (S : Int) (pv : Value) (T : List Tr) (w : World) (hP : Prods w pv T) (hs : T.length * 32 ≤ 140737488351232) (hs2 : ∀ t ∈ T, t.2.2.length * 16 ≤ 140737488351232) (hW : WeakP S T) :
    Calls Try.prog 7 #[.agg #[.int .i64 S, pv]] w fun e w' => e = .returned (.bool true) ∧ Far (fun _ => False) w w' := by
  obtain ⟨h, hh⟩ : ∃ h, h = w.heap.size := ⟨_, rfl⟩
  obtain ⟨ao, pc, rfl⟩ := Src.form hP.1
  obtain ⟨w1, hw1⟩ : ∃ w1, w1 = w.alloc (.cells #[.int .i64 S, .slice ao T.length pc] 24) := ⟨_, rfl⟩
  have hA : Bk w1 h 24 #[.int .i64 S, .slice ao T.length pc] := hw1 ▸ Bk.new hh
  have hF : Far (fun _ => False) w w1 := hw1 ▸ (Far.refl _ w).alloc _
  have a0 : w1.cell? ⟨h, 0, none⟩ = some (.int .i64 S) := hA.cell 0
  have a1 : w1.cell? ⟨h, 1, none⟩ = some (.slice ao T.length pc) := hA.cell 1
  have hm1 : T.length ≤ maxLen := by unfold maxLen; omega
  have hm2 : ∀ t ∈ T, t.2.2.length ≤ maxLen := fun t ht => by have := hs2 t ht; unfold maxLen; omega
  have hm : ∀ T' : List Tr, T'.map pl = T.map pl → (T'.length * 32 ≤ 140737488351232 ∧ ∀ t ∈ T', t.2.2.length * 16 ≤ 140737488351232) ∧ T'.length ≤ maxLen ∧ ∀ t ∈ T', t.2.2.length ≤ maxLen := fun T' h => by
    have e := congrArg List.length h
    simp only [List.length_map] at e
    rw [e]
    exact ⟨⟨hs, lens_pl h hs2⟩, hm1, fun t ht => by have := lens_pl h hs2 t ht; unfold maxLen; omega⟩
  have CP := Lib.hid (fun w' (hf : Far (fun _ => False) w1 w') => copy_any S (.slice ao T.length pc) T w' ((hP.move hF).move hf) hs hs2)
  have RI := Lib.hid (fun w' (hf : Far (fun _ => False) w1 w') => ris_any S (.slice ao T.length pc) T w' ((hP.move hF).move hf) hm1 hm2)
  have hP1 := Lib.hid (hP.move hF)
  have hs' : T.length ≤ 4398046510976 := by omega
  have hm2' := Lib.hid hm2
  have hm' := Lib.hid hm
  have hh' := Lib.hid hh
  have hw1' := Lib.hid hw1
  have hF' := Lib.hid hF
  have hA' := Lib.hid hA
  have hW' := Lib.hid hW
  have hWp := Lib.hid (show ∀ T' : List Tr, T'.map pl = T.map pl → WeakP S T' from fun T' h => weak_pl h hW)
  have C1 := CP.out w1 (Far.refl _ _)
  clear hP hs hs2 hh hw1 hF hA hW hm1 hm2 hm
  go_enter Try.func7, Try.ntmps7
  go_upto_region 1 with fail
  rw [← hh'.out, ← hw1'.out]
  go_wp2_with fail
  refine C1.mono ?_
  rintro e w2 ⟨pv2, T2, rfl, ho2, hpl2, hf2⟩
  have I2 := is_any S pv2 T2 w2 ho2.prods (hm'.out _ hpl2).2.1 (hm'.out _ hpl2).2.2
  have hyes2 := Lib.hid (hWp.out _ hpl2)
  have hf2' := Lib.hid hf2
  clear C1 a0 a1 ho2 hpl2 hf2
  go_wp2_with fail
  refine I2.mono ?_
  rintro e w3 ⟨⟨b, rfl, hb⟩, hf3⟩
  obtain rfl : b = true := hb.2 hyes2.out
  have hf3' := Lib.hid (hf2'.out.then hf3)
  have C3 := CP.out w3 hf3'.out
  have a0 : w3.cell? ⟨h, 0, none⟩ = some (.int .i64 S) := (hA'.out.far' hf3'.out id).cell 0
  have a1 : w3.cell? ⟨h, 1, none⟩ = some (.slice ao T.length pc) := (hA'.out.far' hf3'.out id).cell 1
  clear I2 hb hf3
  go_wp2_with fail
  refine C3.mono ?_
  rintro e w4 ⟨pv4, T4, rfl, ho4, hpl4, hf4⟩
  have P4 := parts_yes S pv4 T4 w4 ho4.prods (hm'.out _ hpl4).1.1 (hm'.out _ hpl4).1.2 (hWp.out _ hpl4)
  have hf4' := Lib.hid (hf3'.out.then hf4)
  have hpl4' := Lib.hid hpl4
  clear C3 a0 a1 ho4 hpl4 hf4
  go_wp2_with fail
  refine P4.mono ?_
  rintro e w5 ⟨⟨hv, lv, qv, B, H, T6, T7, rfl, hst⟩, hf5⟩
  have hf5' := Lib.hid (hf4'.out.then hf5)
  have hT5 := told_of hst hpl4'.out
  obtain ⟨ho, hc, rfl⟩ := Src.form hT5.hs
  obtain ⟨lo, lc, rfl⟩ := Src.form hT5.ls.1
  obtain ⟨qo, qc, rfl⟩ := Src.form hT5.ps.1
  have hT5' := Lib.hid hT5
  clear P4 hf5 hst hT5
  go_wp2_with fail
  refine (head14_any _).mono ?_
  rintro e w6 ⟨rfl, hf6⟩
  have hT6 := Lib.hid (hT5'.out.move hf6)
  have hf6' := Lib.hid (hf5'.out.then hf6)
  have R6 := RI.out w6 hf6'.out
  have a0 : w6.cell? ⟨h, 0, none⟩ = some (.int .i64 S) := (hA'.out.far' hf6'.out id).cell 0
  have a1 : w6.cell? ⟨h, 1, none⟩ = some (.slice ao T.length pc) := (hA'.out.far' hf6'.out id).cell 1
  clear hf6 hT5'
  go_wp2_with fail
  refine R6.mono ?_
  rintro e w7 ⟨⟨b, rfl, hb⟩, hf7⟩
  obtain rfl : b = true := hb.2 hW'.out
  have hf7' := Lib.hid (hf6'.out.then hf7)
  have hT7 := Lib.hid (hT6.out.move hf7)
  have hl0 : H.length = (T.filter zeroL).length := by rw [hT7.out.eh, List.length_map]
  have hl1 : T6.length = (T.filter oneL).length := by have := congrArg List.length hT7.out.el; simpa only [List.length_map] using this
  have hl2 : T7.length = (T.filter twoL).length := by have := congrArg List.length hT7.out.ep; simpa only [List.length_map] using this
  have hl0' := Lib.hid hl0
  have hl1' := Lib.hid hl1
  have hl2' := Lib.hid hl2
  have hmx0 : H.length ≤ T.length := by rw [hl0]; exact List.length_filter_le _ _
  have hmx1 : T6.length ≤ T.length := by rw [hl1]; exact List.length_filter_le _ _
  have hmx2 : T7.length ≤ T.length := by rw [hl2]; exact List.length_filter_le _ _
  clear R6 hb hf7 a0 a1 hT6 hl0 hl1 hl2
  go_wp2_with fail
  go_loopw [7, 8, 9, 10] (fun iv jv kv nv wr => ∃ n i j k : Nat, nv = .int .i64 n ∧ iv = .int .i64 i ∧ jv = .int .i64 j ∧ kv = .int .i64 k ∧ n ≤ T.length ∧ i = ((T.take n).filter zeroL).length ∧ j = ((T.take n).filter oneL).length ∧ k = ((T.take n).filter twoL).length ∧ Far (fun _ => False) w7 wr) (fun _ _ _ nv _ => T.length - (intOf nv).toNat)
  case atStart => exact ⟨0, 0, 0, 0, rfl, rfl, rfl, rfl, Nat.zero_le _, rfl, rfl, rfl, Far.refl _ _⟩
  case round =>
    obtain ⟨n, i, j, k, rfl, rfl, rfl, rfl, hn, hi, hj, hk, hfw⟩ := hrel
    have a1 : wr.cell? ⟨h, 1, none⟩ = some (.slice ao T.length pc) := (hA'.out.far' (hf7'.out.then hfw) id).cell 1
    by_cases hlt : n < T.length
    · have e1 : decide ((n : Int) < (T.length : Int)) = true := by rw [decide_eq_true_eq]; omega
      have hii : (n : Int) < (T.length : Int) := by omega
      obtain ⟨t, ht⟩ : ∃ t, T[n]? = some t := ⟨T[n], List.getElem?_eq_getElem hlt⟩
      obtain ⟨b, off, c, he, hbl, c0, c1, hbd⟩ := (hP1.out.move (hf7'.out.then hfw)).prod ht
      simp only [Value.slice.injEq] at he
      obtain ⟨rfl, _, rfl⟩ := he
      have hm16 := hm2'.out t (List.mem_of_getElem? ht)
      have z1 := filt_len (p := zeroL) ht
      have z2 := filt_len (p := oneL) ht
      have z3 := filt_len (p := twoL) ht
      rw [← hi] at z1
      rw [← hj] at z2
      rw [← hk] at z3
      obtain ⟨bo, bc, ebv⟩ := Src.form hbd
      obtain ⟨ax, hax⟩ : ∃ ax, ax = wr.heap.size := ⟨_, rfl⟩
      obtain ⟨wa, hwa⟩ : ∃ wa, wa = wr.alloc (.cells #[.int .i64 t.1, .slice bo t.2.2.length bc] 37) := ⟨_, rfl⟩
      have hfa : Far (fun _ => False) wr wa := hwa ▸ (Far.refl _ wr).alloc _
      have hX : Bk wa ax 37 #[.int .i64 t.1, .slice bo t.2.2.length bc] := hwa ▸ Bk.new hax
      have hfx := hfw.then hfa
      have hTa := hT7.out.move hfx
      have hba : Body wa (.slice bo t.2.2.length bc) t.2.2 := ebv ▸ hbd.move hfa
      rw [ebv] at c1
      have x0 : wa.cell? ⟨ax, 0, none⟩ = some (.int .i64 t.1) := hX.cell 0
      have x1 : wa.cell? ⟨ax, 1, none⟩ = some (.slice bo t.2.2.length bc) := hX.cell 1
      have hX' := Lib.hid hX
      have hXl := hX.lt
      have hfx' := Lib.hid hfx
      have hax' := Lib.hid hax
      have hwa' := Lib.hid hwa
      have hba' := Lib.hid hba
      have hTa' := Lib.hid hTa
      have hm16' := Lib.hid hm16
      unfold maxLen at hm16
      rcases (show t.2.2.length = 0 ∨ t.2.2.length = 1 ∨ 2 ≤ t.2.2.length by omega) with hl | hl | hl
      · have hq : zeroL t = true := by simp [zeroL, hl]
        have hat := filt_at (p := zeroL) ht hq
        rw [← hi] at hat
        have hat2 : H[i]? = some t.1 := by rw [hTa.eh, List.getElem?_map, hat]; rfl
        have hiH : i < H.length := (List.getElem?_eq_some_iff.1 hat2).1
        obtain ⟨gh, oh, ch, eh, hgl, hcs⟩ := Src.at hTa.hs (by simp [hcells]; omega)
        simp only [Value.slice.injEq] at eh
        obtain ⟨rfl, _, rfl⟩ := eh
        have ci := hcs i (.int .i64 t.1) (by simp [hcells, hat2])
        have d1 : decide ((i : Int) < (H.length : Int)) = true := by rw [decide_eq_true_eq]; omega
        have d2 : (i : Int) < (H.length : Int) := by omega
        have g0 : ((t.2.2.length : Int) == 0) = true := by simp [hl]
        have g1 : (t.1 == t.1) = true := by simp
        have hz1 := Lib.hid (show i + 1 = ((T.take (n + 1)).filter zeroL).length by rw [z1]; simp [zeroL, hl])
        have hz2 := Lib.hid (show j = ((T.take (n + 1)).filter oneL).length by rw [z2]; simp [oneL, hl])
        have hz3 := Lib.hid (show k = ((T.take (n + 1)).filter twoL).length by rw [z3]; simp [twoL, hl])
        clear hcs hat hat2 hTa hba hX hfa hfx hfw hbd ebv ht hi hj hk z1 z2 z3 hq hl hax hwa hbl hgl
        go_upto_region 12 with fail
        rw [← hax'.out, ← hwa'.out]
        clear c0 c1 a1
        generalize t.2.2.length = tl at *
        go_wp2_with fail
        go_quiet (fail)
        go_wp2_with fail
        go_roundw
        case rel => exact ⟨n + 1, i + 1, j, k, by go_num, by go_num, rfl, rfl, by omega, hz1.out, hz2.out, hz3.out, hfx'.out.drewN _⟩
        case measure => simp [intOf]; omega
      · have g0 : ((t.2.2.length : Int) == 0) = false := by simp; exact fun e => by rw [e] at hl; simp at hl
        have g1 : ((t.2.2.length : Int) == 1) = true := by simp [hl]
        have hz1 := Lib.hid (show i = ((T.take (n + 1)).filter zeroL).length by rw [z1]; simp [zeroL, hl])
        have hz2 := Lib.hid (show j + 1 = ((T.take (n + 1)).filter oneL).length by rw [z2]; simp [oneL, hl])
        have hz3 := Lib.hid (show k = ((T.take (n + 1)).filter twoL).length by rw [z3]; simp [twoL, hl])
        have hq : oneL t = true := by simp [oneL, hl]
        have hat := filt_at (p := oneL) ht hq
        rw [← hj] at hat
        have hat2 : ((T6).map pl)[j]? = some (pl t) := by rw [hTa.el, List.getElem?_map, hat]; rfl
        obtain ⟨t6, h6, e6⟩ := map_at rfl hat2
        have hjH : j < T6.length := (List.getElem?_eq_some_iff.1 h6).1
        obtain ⟨gl, ol, cl, el, hgl, l0, l1, lb⟩ := hTa.ls.prod h6
        simp only [Value.slice.injEq] at el
        obtain ⟨rfl, _, rfl⟩ := el
        rw [show t6.1 = t.1 from show (pl t6).1 = (pl t).1 by rw [e6]] at l0
        rw [show t6.2.2 = t.2.2 from show (pl t6).2 = (pl t).2 by rw [e6]] at lb
        obtain ⟨vo, vc, ev⟩ := Src.form lb
        rw [ev] at l1 lb
        have SB := Lib.hid (fun w' (hf : Far (fun _ => False) wa w') => sameBody_yes (.slice vo t.2.2.length vc) (.slice bo t.2.2.length bc) t.2.2 w' hm16'.out (lb.move hf) (hba'.out.move hf))
        have HK := Lib.hid (show ∀ w2, Far (fun _ => False) wa w2 → w2.cell? ⟨gl, ol + j * 2, none⟩ = some (.int .i64 t.1) ∧ w2.cell? ⟨gl, ol + j * 2 + 1, none⟩ = some (.slice vo t.2.2.length vc) ∧ w2.cell? ⟨ax, 0, none⟩ = some (.int .i64 t.1) ∧ w2.cell? ⟨ax, 1, none⟩ = some (.slice bo t.2.2.length bc) from fun w2 hf => ⟨(hf.cell hgl).trans l0, (hf.cell hgl).trans l1, (hf.cell hXl).trans x0, (hf.cell hXl).trans x1⟩)
        have d1 : decide ((j : Int) < (T6.length : Int)) = true := by rw [decide_eq_true_eq]; omega
        have d2 : (j : Int) < (T6.length : Int) := by omega
        have g3 : (t.1 == t.1) = true := by simp
        clear hat hat2 hTa hba hX hfa hfx hfw hbd ebv ht hi hj hk z1 z2 z3 hq hax hwa hbl h6 e6 lb ev
        clear hl
        go_upto_region 12 with fail
        rw [← hax'.out, ← hwa'.out]
        clear c0 c1 a1
        generalize t.2.2.length = tl at *
        go_wp2_with fail
        go_region_held3 (fun w' => w'.cell? ⟨gl, ol + j * 2, none⟩ = some (.int .i64 t.1) ∧ w'.cell? ⟨gl, ol + j * 2 + 1, none⟩ = some (.slice vo tl vc) ∧ w'.cell? ⟨ax, 0, none⟩ = some (.int .i64 t.1) ∧ w'.cell? ⟨ax, 1, none⟩ = some (.slice bo tl bc)) (go_keep)
          (first
            | (go_at_call 18; refine (SB.out _ (drew_far wa)).mono ?_; rintro e w9 ⟨rfl, hf9⟩; obtain ⟨r0, r1, r2, r3⟩ := HK.out w9 ((drew_far wa).then hf9); have hf9' := Lib.hid ((drew_far wa).then hf9); clear hf9))
        all_goals
          go_wp2_with fail
          go_roundw
          case rel => exact ⟨n + 1, i, j + 1, k, by go_num, rfl, by go_num, rfl, by omega, hz1.out, hz2.out, hz3.out, hfx'.out.then hf9'.out⟩
          case measure => simp [intOf]; omega
      · have q0 : (t.2.2.length == 0) = false := by simp; exact fun e => by rw [e] at hl; simp at hl
        have q1 : (t.2.2.length == 1) = false := by simp; omega
        have g0 : ((t.2.2.length : Int) == 0) = false := by simp; exact fun e => by rw [e] at hl; simp at hl
        have g1 : ((t.2.2.length : Int) == 1) = false := by simp; omega
        have hz1 := Lib.hid (show i = ((T.take (n + 1)).filter zeroL).length by rw [z1]; simp [zeroL, q0, q1])
        have hz2 := Lib.hid (show j = ((T.take (n + 1)).filter oneL).length by rw [z2]; simp [oneL, q0, q1])
        have hz3 := Lib.hid (show k + 1 = ((T.take (n + 1)).filter twoL).length by rw [z3]; simp [twoL, q0, q1])
        have hq : twoL t = true := by simp [twoL, q0, q1]
        have hat := filt_at (p := twoL) ht hq
        rw [← hk] at hat
        have hat2 : ((T7).map pl)[k]? = some (pl t) := by rw [hTa.ep, List.getElem?_map, hat]; rfl
        obtain ⟨t6, h6, e6⟩ := map_at rfl hat2
        have hjH : k < T7.length := (List.getElem?_eq_some_iff.1 h6).1
        obtain ⟨gl, ol, cl, el, hgl, l0, l1, lb⟩ := hTa.ps.prod h6
        simp only [Value.slice.injEq] at el
        obtain ⟨rfl, _, rfl⟩ := el
        rw [show t6.1 = t.1 from show (pl t6).1 = (pl t).1 by rw [e6]] at l0
        rw [show t6.2.2 = t.2.2 from show (pl t6).2 = (pl t).2 by rw [e6]] at lb
        obtain ⟨vo, vc, ev⟩ := Src.form lb
        rw [ev] at l1 lb
        have SB := Lib.hid (fun w' (hf : Far (fun _ => False) wa w') => sameBody_yes (.slice vo t.2.2.length vc) (.slice bo t.2.2.length bc) t.2.2 w' hm16'.out (lb.move hf) (hba'.out.move hf))
        have HK := Lib.hid (show ∀ w2, Far (fun _ => False) wa w2 → w2.cell? ⟨gl, ol + k * 2, none⟩ = some (.int .i64 t.1) ∧ w2.cell? ⟨gl, ol + k * 2 + 1, none⟩ = some (.slice vo t.2.2.length vc) ∧ w2.cell? ⟨ax, 0, none⟩ = some (.int .i64 t.1) ∧ w2.cell? ⟨ax, 1, none⟩ = some (.slice bo t.2.2.length bc) from fun w2 hf => ⟨(hf.cell hgl).trans l0, (hf.cell hgl).trans l1, (hf.cell hXl).trans x0, (hf.cell hXl).trans x1⟩)
        have d1 : decide ((k : Int) < (T7.length : Int)) = true := by rw [decide_eq_true_eq]; omega
        have d2 : (k : Int) < (T7.length : Int) := by omega
        have g3 : (t.1 == t.1) = true := by simp
        clear hat hat2 hTa hba hX hfa hfx hfw hbd ebv ht hi hj hk z1 z2 z3 hq hax hwa hbl h6 e6 lb ev
        clear hl
        go_upto_region 12 with fail
        rw [← hax'.out, ← hwa'.out]
        clear c0 c1 a1
        generalize t.2.2.length = tl at *
        go_wp2_with fail
        go_region_held3 (fun w' => w'.cell? ⟨gl, ol + k * 2, none⟩ = some (.int .i64 t.1) ∧ w'.cell? ⟨gl, ol + k * 2 + 1, none⟩ = some (.slice vo tl vc) ∧ w'.cell? ⟨ax, 0, none⟩ = some (.int .i64 t.1) ∧ w'.cell? ⟨ax, 1, none⟩ = some (.slice bo tl bc)) (go_keep)
          (first
            | (go_at_call 18; refine (SB.out _ (drew_far wa)).mono ?_; rintro e w9 ⟨rfl, hf9⟩; obtain ⟨r0, r1, r2, r3⟩ := HK.out w9 ((drew_far wa).then hf9); have hf9' := Lib.hid ((drew_far wa).then hf9); clear hf9))
        all_goals
          go_wp2_with fail
          go_roundw
          case rel => exact ⟨n + 1, i, j, k + 1, by go_num, rfl, rfl, by go_num, by omega, hz1.out, hz2.out, hz3.out, hfx'.out.then hf9'.out⟩
          case measure => simp [intOf]; omega
    · have e1 : decide ((n : Int) < (T.length : Int)) = false := by rw [decide_eq_false_iff_not]; omega
      have hin : n = T.length := by omega
      subst hin
      rw [List.take_length] at hi hj hk
      rw [← hl0'.out] at hi
      rw [← hl1'.out] at hj
      rw [← hl2'.out] at hk
      subst hi hj hk
      have hfw' := Lib.hid hfw
      have s0 : ((H.length : Int) == (H.length : Int)) = true := by simp
      have s1 : ((T6.length : Int) == (T6.length : Int)) = true := by simp
      have s2 : ((T7.length : Int) == (T7.length : Int)) = true := by simp
      clear hfw
      go_wp2_with fail
      go_ret
      exact ⟨by simp, hF'.out.then (hf7'.out.then hfw'.out)⟩
end
end Go.Proofs.Ytfgoghmhjbhbiaa
