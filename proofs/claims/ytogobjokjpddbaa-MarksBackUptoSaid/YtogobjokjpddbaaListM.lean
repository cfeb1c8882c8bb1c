/-
  Two lists of marks that are alike; some answers that the document fixes.
-/
import Derived.Test.YtogobjokjpddbaaRefKind
import Derived.Laws.StructEq
import Derived.StillTailTactics
import Derived.Deep.QuietTactic
import Derived.BigQuiet
import Derived.StillTactics
namespace Go.Proofs.Ytogobjokjpddbaa
open Go.RowKit Go.Shelf
set_option linter.unusedVariables false
set_option linter.unusedSimpArgs false
/-- v is a slice of n marks in memory. -/
def SlM (w : World) (v : Value) (n : Nat) (F : Nat → Int × Int × ByteArray) : Prop :=
  ∃ A cap, v = .slice A n cap ∧ (0 < n → ∃ b off, A = some ⟨b, off, none⟩ ∧ b < w.heap.size ∧ ∀ k, k < n → w.cell? ⟨b, off + k * 3, none⟩ = some (.int .i64 (F k).1) ∧
    w.cell? ⟨b, off + k * 3 + 1, none⟩ = some (.int .i64 (F k).2.1) ∧ w.cell? ⟨b, off + k * 3 + 2, none⟩ = some (.string (F k).2.2))
theorem SlM.stays {w w' : World} {v : Value} {n : Nat} {F : Nat → Int × Int × ByteArray} (h : SlM w v n F) (hb : Below w.heap.size w w') : SlM w' v n F := by
  obtain ⟨A, cap, rfl, hc⟩ := h
  refine ⟨A, cap, rfl, fun h0 => ?_⟩
  obtain ⟨b, off, rfl, hlt, hc⟩ := hc h0
  exact ⟨b, off, rfl, Nat.lt_of_lt_of_le hlt hb.size, fun k hk => ⟨(hb.cell (p := ⟨b, _, none⟩) hlt).trans (hc k hk).1, (hb.cell (p := ⟨b, _, none⟩) hlt).trans (hc k hk).2.1, (hb.cell (p := ⟨b, _, none⟩) hlt).trans (hc k hk).2.2⟩⟩
/-- A list of marks as numbers. -/
def fn (l : List (Nat × Nat × ByteArray)) (k : Nat) : Int × Int × ByteArray := let x := l.getD k (0, 0, ⟨#[]⟩); ((x.1 : Int), (x.2.1 : Int), x.2.2)
theorem SlM.of_own {base : Nat} {w : World} {v : Value} {l : List (Nat × Nat × ByteArray)} (h : OwnM base w v l) : SlM w v l.length (fn l) := by
  by_cases h0 : 0 < l.length
  · obtain ⟨g, cap, rfl, _, hg⟩ := World.ownsRow.form h.row h0
    refine ⟨_, cap, rfl, fun _ => ⟨g, 0, rfl, hg, fun k hk => ?_⟩⟩
    have hx : l[k]? = some l[k] := List.getElem?_eq_getElem hk
    obtain ⟨a, b, c⟩ := flatM_at l k _ hx
    have hd : l.getD k (0, 0, ⟨#[]⟩) = l[k] := by rw [List.getD_eq_getElem?_getD, hx]; rfl
    unfold fn
    rw [hd]
    exact ⟨by rw [Nat.zero_add]; exact (h.row.cellAt _ (by omega)).trans a, by rw [Nat.zero_add]; exact (h.row.cellAt _ (by omega)).trans b, by rw [Nat.zero_add]; exact (h.row.cellAt _ (by omega)).trans c⟩
  · rcases h.row.2 with ⟨rfl, h1⟩ | ⟨g, cap, cur, rfl, _⟩
    · exact ⟨none, 0, by rw [h1], fun h => absurd h h0⟩
    · exact ⟨_, cap, rfl, fun h => absurd h h0⟩
set_option maxRecDepth 100000 in
theorem eq_mark (a b c d : Int) (s t : ByteArray) (w : World) : (Op.equalIn 10000 29 (.agg #[.int .i64 a, .int .i64 b, .string s]) (.agg #[.int .i64 c, .int .i64 d, .string t])).run Try.prog w = .ok (a == c && (b == d && (s.toList == t.toList))) w := by
  have e := run_equalIn_agg w 9999 29 #[.int .i64 a, .int .i64 b, .string s] #[.int .i64 c, .int .i64 d, .string t] markStruct (by kernel_rfl)
  rw [show (10000 : Nat) = 9999 + 1 from rfl, e]
  simp only [Program.fieldsOf, Try.underlying29]
  have u3 := Try.underlying3
  have a3 := Try.isAgg3
  have z3 := Try.sizeOf3
  have u4 := Try.underlying27
  have a4 := Try.isAgg27
  have z4 := Try.sizeOf27
  have u5 := Try.underlying9
  have a5 := Try.isAgg9
  have z5 := Try.sizeOf9
  go_simp
  by_cases h1 : a = c <;> by_cases h2 : b = d <;> by_cases h3 : s.toList = t.toList <;> simp [h1, h2, h3]
section
set_option maxHeartbeats 1000000
set_option maxRecDepth 100000
theorem list_yes (a b : Value) (n : Nat) (F : Nat → Int × Int × ByteArray) (w : World) (ha : SlM w a n F) (hb : SlM w b n F) (hn : n ≤ 9223372036854775807) :
    Calls Try.prog 11 #[a, b] w fun e w' => e = .returned (.bool true) ∧ Below w.heap.size w w' := by
  obtain ⟨A, ca, rfl, hA⟩ := ha
  obtain ⟨B, cb, rfl, hB⟩ := hb
  have HA := Lib.hid hA
  have HB := Lib.hid hB
  clear hA hB
  go_enter Try.func11, Try.ntmps11
  go_wp2_with fail
  go_loopw [5] (fun i wr => ∃ k : Nat, k ≤ n ∧ i = .int .i64 k ∧ Below w.heap.size w wr) (fun i _ => n - (intOf i).toNat)
  case atStart => exact ⟨0, Nat.zero_le _, rfl, Below.refl _ _⟩
  case round =>
    obtain ⟨k, hk, rfl, hbl⟩ := hrel
    by_cases hlt : k < n
    · obtain ⟨b1, o1, rfl, l1, c1⟩ := HA.out (by omega)
      obtain ⟨b2, o2, rfl, l2, c2⟩ := HB.out (by omega)
      have d1 := (hbl.cell (p := ⟨b1, o1 + k * 3, none⟩) l1).trans (c1 k hlt).1
      have d2 := (hbl.cell (p := ⟨b1, o1 + k * 3 + 1, none⟩) l1).trans (c1 k hlt).2.1
      have d3 := (hbl.cell (p := ⟨b1, o1 + k * 3 + 2, none⟩) l1).trans (c1 k hlt).2.2
      have d4 := (hbl.cell (p := ⟨b2, o2 + k * 3, none⟩) l2).trans (c2 k hlt).1
      have d5 := (hbl.cell (p := ⟨b2, o2 + k * 3 + 1, none⟩) l2).trans (c2 k hlt).2.1
      have d6 := (hbl.cell (p := ⟨b2, o2 + k * 3 + 2, none⟩) l2).trans (c2 k hlt).2.2
      have EQ := eq_mark
      have hq : ((F k).1 == (F k).1 && ((F k).2.1 == (F k).2.1 && ((F k).2.2.toList == (F k).2.2.toList))) = true := by simp
      generalize F k = y at *
      obtain ⟨y1, y2, y3⟩ := y
      dsimp only at *
      clear c1 c2
      go_wp2_with fail
      go_quiet (fail)
      go_wp2_with fail
      exact ⟨⟨k + 1, by omega, by go_num, hbl.trans ⟨rfl, rfl, rfl, Nat.le_refl _, fun _ _ => rfl⟩⟩, by simp [intOf]; omega⟩
    · go_wp2_with fail
      go_ret
      exact ⟨rfl, hbl⟩
def sA : ByteArray := ⟨#[83, 32, 61, 32, 97, 95, 49]⟩
def sB : ByteArray := ⟨#[97, 45, 98]⟩
theorem mlA : ml sA = [(1, 0, 1), (4, 2, 3), (2, 4, 7)] := by decide +kernel
theorem stA : stopAt sA = 7 := by decide +kernel
theorem stB : stopAt sB = 1 := by decide +kernel
theorem kdC : kd ⟨#[42]⟩ = 7 := by decide +kernel
theorem exA : sA.extract 4 7 = ⟨#[97, 95, 49]⟩ := by decide +kernel
theorem awake_any (w : World) : Calls Try.prog 14 #[] w fun e w' => e = .returned (.bool true) ∧ Below w.heap.size w w' := by
  have S1 : ∀ w : World, Calls Try.prog 9 #[.string ⟨#[83, 32, 61, 32, 97, 95, 49]⟩] w fun e w' => ∃ g cap, e = .returned (.tuple #[.slice (some ⟨g, 0, none⟩) 3 cap, .int .i64 0, .int .i64 0]) ∧
      g < w'.heap.size ∧ w'.cell? ⟨g, 6, none⟩ = some (.int .i64 2) ∧ w'.cell? ⟨g, 7, none⟩ = some (.int .i64 4) ∧ w'.cell? ⟨g, 8, none⟩ = some (.string ⟨#[97, 95, 49]⟩) ∧ Below w.heap.size w w' := fun w =>
    (scan_any sA w (by decide)).mono fun e w' h => by
      obtain ⟨h, hb⟩ := h
      rw [if_neg (by rw [stA]; decide)] at h
      obtain ⟨v, rfl, hO⟩ := h
      rw [mlA] at hO
      obtain ⟨g, cap, rfl, _, hg⟩ := World.ownsRow.form hO.row (by simp [txt])
      refine ⟨g, cap, rfl, hg, ?_, ?_, ?_, hb⟩
      · exact (hO.row.cellAt 6 (by simp [txt])).trans rfl
      · exact (hO.row.cellAt 7 (by simp [txt])).trans rfl
      · exact (hO.row.cellAt 8 (by simp [txt])).trans (congrArg (fun y => some (Value.string y)) exA)
  have S2 : ∀ w : World, Calls Try.prog 9 #[.string ⟨#[97, 45, 98]⟩] w fun e w' => e = .returned (.tuple #[.slice none 0 0, .int .i64 1, .int .i64 160]) ∧ Below w.heap.size w w' := fun w =>
    (scan_any sB w (by decide)).mono fun e w' h => by
      obtain ⟨h, hb⟩ := h
      rw [if_pos (by rw [stB]; decide), stB] at h
      exact ⟨h, hb⟩
  have S3 : ∀ w : World, Calls Try.prog 17 #[.string ⟨#[42]⟩] w fun e w' => e = .returned (.tuple #[.int .i64 7, .bool true]) ∧ Below w.heap.size w w' := fun w =>
    (kindT_any ⟨#[42]⟩ w (by decide)).mono fun e w' ⟨h, hb⟩ => by
      rw [kdC] at h
      exact ⟨h, hb⟩
  have EQ := eq_mark
  go_enter Try.func14, Try.ntmps14
  go_wp2_with fail
  refine (S1 _).mono ?_
  rintro e w1 ⟨g, cap, rfl, hg, c6, c7, c8, hb1⟩
  go_wp2_with fail
  refine (S2 _).mono ?_
  rintro e w2 ⟨rfl, hb2⟩
  replace c6 := (hb2.cell (p := ⟨g, 6, none⟩) hg).trans c6
  replace c7 := (hb2.cell (p := ⟨g, 7, none⟩) hg).trans c7
  replace c8 := (hb2.cell (p := ⟨g, 8, none⟩) hg).trans c8
  have hg2 := Nat.lt_of_lt_of_le hg hb2.size
  go_wp2_with fail
  refine (S3 _).mono ?_
  rintro e w3 ⟨rfl, hb3⟩
  replace c6 := (hb3.cell (p := ⟨g, 6, none⟩) hg2).trans c6
  replace c7 := (hb3.cell (p := ⟨g, 7, none⟩) hg2).trans c7
  replace c8 := (hb3.cell (p := ⟨g, 8, none⟩) hg2).trans c8
  have hbb := Lib.hid ((hb1.trans (hb2.mono hb1.size)).trans (hb3.mono (Nat.le_trans hb1.size hb2.size)))
  clear hb1 hb2 hb3 S1 S2 S3
  go_wp2_with fail
  go_ret
  exact ⟨rfl, hbb.out⟩
end
end Go.Proofs.Ytogobjokjpddbaa
