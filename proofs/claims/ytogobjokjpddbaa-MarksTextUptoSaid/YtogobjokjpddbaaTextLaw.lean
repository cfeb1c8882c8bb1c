/-
  MarksText walked.
-/
import Derived.Test.YtogobjokjpddbaaText
import Derived.Laws.AppendOwnNone
namespace Go.Proofs.Ytogobjokjpddbaa
open Go.RowKit Go.Shelf
set_option linter.unusedVariables false
set_option linter.unusedSimpArgs false
/-! ### A list of marks copied -/
def fl (F : Nat → Int × Int × ByteArray) : Nat → List Value
  | 0 => []
  | n + 1 => fl F n ++ [.int .i64 (F n).1, .int .i64 (F n).2.1, .string (F n).2.2]
theorem fl_length (F : Nat → Int × Int × ByteArray) : ∀ n, (fl F n).length = n * 3
  | 0 => rfl
  | n + 1 => by simp [fl, fl_length F n]; omega
theorem fl_at (F : Nat → Int × Int × ByteArray) (k : Nat) : ∀ n, k < n → (fl F n)[k * 3]? = some (.int .i64 (F k).1) ∧ (fl F n)[k * 3 + 1]? = some (.int .i64 (F k).2.1) ∧ (fl F n)[k * 3 + 2]? = some (.string (F k).2.2)
  | 0, h => absurd h (Nat.not_lt_zero _)
  | n + 1, h => by
    have hl := fl_length F n
    by_cases e : k = n
    · subst e
      unfold fl
      rw [List.getElem?_append_right (by omega), List.getElem?_append_right (by omega), List.getElem?_append_right (by omega), hl, Nat.sub_self, show k * 3 + 1 - k * 3 = 1 by omega, show k * 3 + 2 - k * 3 = 2 by omega]
      exact ⟨rfl, rfl, rfl⟩
    · have ih := fl_at F k n (by omega)
      unfold fl
      rw [List.getElem?_append_left (by omega), List.getElem?_append_left (by omega), List.getElem?_append_left (by omega)]
      exact ih
theorem fl_one (F : Nat → Int × Int × ByteArray) : ∀ n u, u ∈ fl F n → u.oneCell' = true
  | 0, _, h => by cases h
  | n + 1, u, h => by
    unfold fl at h
    rw [List.mem_append] at h
    rcases h with h | h
    · exact fl_one F n u h
    · simp at h; rcases h with rfl | rfl | rfl <;> rfl
theorem sl_of_own {w : World} {base n : Nat} {v : Value} {F : Nat → Int × Int × ByteArray} (h : w.ownsRow base 29 3 v n (fl F n)) : SlM w v n F := by
  by_cases h0 : 0 < n
  · obtain ⟨g, cap, rfl, _, hlt⟩ := World.ownsRow.form h h0
    refine ⟨_, cap, rfl, fun _ => ⟨g, 0, rfl, hlt, fun k hk => ?_⟩⟩
    rw [Nat.zero_add, h.cellAt (k * 3) (by omega), h.cellAt (k * 3 + 1) (by omega), h.cellAt (k * 3 + 2) (by omega)]
    exact fl_at F k n hk
  · rcases h.2 with ⟨rfl, h1⟩ | ⟨g, cap, cur, rfl, _⟩
    · exact ⟨none, 0, by rw [h1], fun h => absurd h h0⟩
    · exact ⟨_, cap, rfl, fun h => absurd h h0⟩
theorem fl_cells {w : World} {n b off : Nat} {F : Nat → Int × Int × ByteArray} (hc : ∀ k, k < n → w.cell? ⟨b, off + k * 3, none⟩ = some (.int .i64 (F k).1) ∧ w.cell? ⟨b, off + k * 3 + 1, none⟩ = some (.int .i64 (F k).2.1) ∧ w.cell? ⟨b, off + k * 3 + 2, none⟩ = some (.string (F k).2.2)) :
    ∀ j u, (fl F n)[j]? = some u → w.cell? ((⟨b, off, none⟩ : Addr).add j) = some u := by
  intro j u hj
  have hlt : j < n * 3 := by rw [← fl_length F n]; exact (List.getElem?_eq_some_iff.1 hj).1
  rw [add_none]
  obtain ⟨k, hk⟩ : ∃ k, k = j / 3 := ⟨_, rfl⟩
  have hkn : k < n := by omega
  rcases (by omega : j = k * 3 ∨ j = k * 3 + 1 ∨ j = k * 3 + 2) with e | e | e
  · subst e; rw [(fl_at F k n hkn).1] at hj; rw [(hc k hkn).1]; exact hj
  · subst e; rw [(fl_at F k n hkn).2.1] at hj; rw [← Nat.add_assoc, (hc k hkn).2.1]; exact hj
  · subst e; rw [(fl_at F k n hkn).2.2] at hj; rw [← Nat.add_assoc, (hc k hkn).2.2]; exact hj
theorem run_append_none {P : Program} {w : World} (t ty e : TypeId) (i : TypeInfo) (ht : P.underlying t = some (.slice e)) (hi : P.info? e = some i) (g c cap : Nat) :
    (Builtin.append_ #[t, t] ty #[.slice (some ⟨g, 0, none⟩) 0 cap, .slice none 0 c]).run P w = .ok (.slice (some ⟨g, 0, none⟩) 0 cap) w := by
  simp [Builtin.append_, run_underlying ht, sizeOf, typeInfo, hi, Builtin.lenOf, Builtin.firstCells, storeCells, Sem.run_bind, Result.andThen]
theorem wpList_append_copy {ops : Array Oper} {rest : List Oper} {o : Oper} {a : Act} {w : World} {Q : Exit → Act → World → Prop} (hgd : o.guard = none) (s x : Operand)
    (ho : o.op = .call { callee := .builtin .append, args := #[s, x], argTypes := #[22, 22] }) (base g : Nat) (hs : a.eval s = .slice (some ⟨g, 0, none⟩) 0 0)
    (hown : w.ownsRow base 29 3 (.slice (some ⟨g, 0, none⟩) 0 0) 0 []) (n : Nat) (F : Nat → Int × Int × ByteArray) (v : Value) (hx : a.eval x = v) (hv : SlM w v n F) (hn : n * 32 ≤ 140737488355328) (hbase : base ≤ w.heap.size)
    (h : ∀ v' w', w'.ownsRow base 29 3 v' n (fl F n) → w.grownBy w' (some g) → wpList Try.prog ops Q rest (a.put o.dst v') w') : wpList Try.prog ops Q (o :: rest) a w := by
  obtain ⟨i0, hi, hz0, hz1, hz2⟩ := info_parts markInfo
  obtain ⟨A, cap, rfl, hc⟩ := hv
  by_cases h0 : 0 < n
  · obtain ⟨b, off, rfl, hb, hc⟩ := hc h0
    exact wpList_append_own _ hgd s x 22 ho base 29 i0 _ 3 32 markType hi hz0 hz1 hz2 rfl (by decide) _ 0 [] hs hown ⟨b, off, none⟩ n cap (fl F n) hx (fl_length F n) (fl_cells hc) (fl_one F n) (by unfold maxLen; omega) (by omega) hbase
      fun v' w' h1 h2 _ => h v' w' (by simpa using h1) h2
  · have hn0 : n = 0 := by omega
    subst hn0
    cases A with
    | none =>
      refine wpList_plain hgd fun K hK => ?_
      have hrun := run_append_none (P := Try.prog) (w := w) 22 o.type 29 i0 markType hi g cap 0
      unfold Oper.wp
      simp [execOp, ho, resolve, invoke, builtin, hs, hx, hrun, Result.andThen]
      exact hK _ _ (h _ w hown (World.grownBy.refl w _))
    | some ad =>
      exact wpList_append_own _ hgd s x 22 ho base 29 i0 _ 3 32 markType hi hz0 hz1 hz2 rfl (by decide) _ 0 [] hs hown ad 0 cap [] hx rfl (fun j u h => by cases h) (fun u h => by cases h) (by decide) (by decide) hbase
        fun v' w' h1 h2 _ => h v' w' (by simpa [fl] using h1) h2
section
set_option maxHeartbeats 2000000
set_option maxRecDepth 100000
theorem text_law (v : Value) (n : Nat) (F : Nat → Int × Int × ByteArray) (w : World) (hv : SlM w v n F) (hn : n ≤ 1048576) (hF : ∀ k, k < n → (F k).2.2.size ≤ 1048576) (hJ : (joined F n).size ≤ 4194304) :
    Calls Try.prog 4 #[v] w fun e w' => e = .returned (.bool true) ∧ Below w.heap.size w w' := by
  have HV := Lib.hid hv
  obtain ⟨A, ca, rfl, hA⟩ := hv
  have HA := Lib.hid hA
  have HF := Lib.hid hF
  clear hA hF
  go_enter Try.func4, Try.ntmps4
  go_wp2_with (at_builtin; refine wpList_append_copy rfl _ _ rfl w.heap.size _ rfl ?c1 n F _ rfl ?c2 (by omega) ?c3 ?_)
  case c1 => have := World.ownsRow_lit (base := w.heap.size) (e := 29) (size := 3) w #[] 0 (by simp) (by decide) rfl; simpa using this
  case c2 => exact HV.out.stays ((Below.refl _ _).alloc (Nat.le_refl _) _)
  case c3 => simp
  intro v' w1 hown hgrow
  have db1 : Below w.heap.size w w1 := ((Below.refl _ _).alloc (Nat.le_refl _) _).trans ((Below.refl _ _).grown hgrow (by simp) (fun q hq => by cases hq; exact Nat.le_refl _))
  have HO := Lib.hid (sl_of_own hown)
  have HV1 := Lib.hid (HV.out.stays db1)
  have HD1 := Lib.hid db1
  obtain ⟨A', ca', rfl, _⟩ := sl_of_own hown
  clear hown hgrow db1
  go_wp2_with fail
  refine (text_any _ n F _ HO.out hn HF.out hJ).mono ?_
  rintro e w2 ⟨he, hb2⟩
  have HO2 := Lib.hid (HO.out.stays hb2)
  have HV2 := Lib.hid (HV1.out.stays hb2)
  have HD2 := Lib.hid (HD1.out.trans (hb2.mono HD1.out.size))
  clear hb2 HO HV1 HD1
  obtain ⟨t, z, he1, he2⟩ : ∃ (t : ByteArray) (z : Int), e = .returned (.tuple #[.string t, .int .i64 z]) ∧ ∀ e' w', TextIs F n w2 e' w' → e' = .returned (.tuple #[.string t, .int .i64 z]) ∧ Below w2.heap.size w2 w' := by
    by_cases ho : okAll F n = true
    · rw [if_pos ho] at he
      exact ⟨_, _, he, fun e' w' h => ⟨by have := h.1; rwa [if_pos ho] at this, h.2⟩⟩
    · rw [if_neg ho] at he
      exact ⟨_, _, he, fun e' w' h => ⟨by have := h.1; rwa [if_neg ho] at this, h.2⟩⟩
  subst he1
  have HE := Lib.hid he2
  clear he he2
  go_wp2_with fail
  refine (rtext_any _ n F _ HV2.out hn HF.out hJ).mono ?_
  rintro e w3 hw3
  obtain ⟨rfl, hb3⟩ := HE.out _ _ hw3
  have HO3 := Lib.hid (HO2.out.stays hb3)
  have HV3 := Lib.hid (HV2.out.stays hb3)
  have HD3 := Lib.hid (HD2.out.trans (hb3.mono HD2.out.size))
  clear hw3 hb3 HO2 HV2 HD2 HE
  go_wp2_with fail
  refine (list_yes _ _ n F _ HO3.out HV3.out (by omega)).mono ?_
  rintro e w4 ⟨rfl, hb4⟩
  have HD4 := Lib.hid (HD3.out.trans (hb4.mono HD3.out.size))
  clear hb4 HO3 HV3 HD3
  go_wp2_with fail
  go_loopw [8] (fun i wr => ∃ k : Nat, k ≤ n ∧ i = .int .i64 k ∧ Below w.heap.size w wr) (fun i _ => n - (intOf i).toNat)
  case atStart => exact ⟨0, Nat.zero_le _, rfl, HD4.out⟩
  case round =>
    obtain ⟨k, hk, rfl, hbl⟩ := hrel
    by_cases hlt : k < n
    · obtain ⟨b1, o1, rfl, l1, c1⟩ := HA.out (by omega)
      have hz := HF.out k hlt
      have hl1 := Nat.lt_of_lt_of_le l1 hbl.size
      have d3 := (hbl.cell (p := ⟨b1, o1 + k * 3 + 2, none⟩) l1).trans (c1 k hlt).2.2
      have hdk : decide ((k : Int) < (n : Int)) = true := by rw [decide_eq_true_eq]; omega
      clear c1
      go_wp2_with fail
      refine (kindT_any _ _ (by omega)).mono ?_
      rintro e w1 ⟨rfl, hb1⟩
      have d3' := (hb1.cell (p := ⟨b1, o1 + k * 3 + 2, none⟩) hl1).trans d3
      have HB := Lib.hid (hbl.trans (hb1.mono hbl.size))
      clear d3 hb1 hbl
      go_wp2_with fail
      refine (rkind_any _ _ (by omega)).mono ?_
      rintro e w1 ⟨rfl, hb1⟩
      have HB1 := Lib.hid (HB.out.trans (hb1.mono HB.out.size))
      clear d3' hb1 HB
      generalize (kd (F k).2.2 != 0) = bb at *
      generalize kd (F k).2.2 = q at *
      cases bb
      all_goals
        go_wp2_with fail
        go_roundw
        case rel => exact ⟨k + 1, by omega, by go_num, HB1.out⟩
        case measure => simp [intOf]; omega
    · have hdk : decide ((k : Int) < (n : Int)) = false := by rw [decide_eq_false_iff_not]; omega
      have HB := Lib.hid hbl
      clear hbl
      go_wp2_with fail
      refine (awake_any _).mono ?_
      rintro e w1 ⟨rfl, hb1⟩
      go_wp2_with fail
      go_ret
      exact ⟨rfl, HB.out.trans (hb1.mono HB.out.size)⟩
end
end Go.Proofs.Ytogobjokjpddbaa
