/-
  Text, the program's and the reference's.
-/
import Derived.Test.YtogobjokjpddbaaPlace
namespace Go.Proofs.Ytogobjokjpddbaa
open Go.RowKit Go.Shelf
set_option linter.unusedVariables false
set_option linter.unusedSimpArgs false
def okB (F : Nat → Int × Int × ByteArray) (j : Nat) : Bool := (kd (F j).2.2 != 0) && ((kd (F j).2.2 : Int) == (F j).1)
def okAll (F : Nat → Int × Int × ByteArray) (n : Nat) : Bool := (List.range n).all (okB F)
theorem okAll_succ (F : Nat → Int × Int × ByteArray) (k : Nat) : okAll F (k + 1) = (okAll F k && okB F k) := by simp [okAll, List.range_succ]
theorem okAll_no {F : Nat → Int × Int × ByteArray} {k : Nat} (h : okB F k = false) : ∀ n, k < n → okAll F n = false
  | 0, h' => absurd h' (Nat.not_lt_zero _)
  | n + 1, h' => by
    rw [okAll_succ]
    by_cases e : k = n
    · subst e; rw [h, Bool.and_false]
    · rw [okAll_no h n (by omega), Bool.false_and]
def texts (F : Nat → Int × Int × ByteArray) (n : Nat) : List ByteArray := (List.range n).map fun j => (F j).2.2
theorem texts_succ (F : Nat → Int × Int × ByteArray) (k : Nat) : texts F (k + 1) = texts F k ++ [(F k).2.2] := by simp [texts, List.range_succ]
theorem texts_length (F : Nat → Int × Int × ByteArray) (k : Nat) : (texts F k).length = k := by simp [texts]
def joined (F : Nat → Int × Int × ByteArray) (n : Nat) : ByteArray := ⟨(Lib.join ((texts F n).map (·.data.toList)) [32]).toArray⟩
theorem join_snoc (sep x : List UInt8) : ∀ l : List (List UInt8), l ≠ [] → Lib.join (l ++ [x]) sep = Lib.join l sep ++ (sep ++ x)
  | [], h => absurd rfl h
  | y :: r, _ => by
    rw [List.cons_append, Lib.join_cons, Lib.join_cons, Lib.joinTail, Lib.joinTail, List.map_append, List.flatten_append]
    simp
theorem joined_more (F : Nat → Int × Int × ByteArray) (k : Nat) (hk : 0 < k) : joined F (k + 1) = joined F k ++ ⟨#[32]⟩ ++ (F k).2.2 := by
  apply ByteArray.ext
  apply Array.toList_inj.1
  unfold joined
  rw [texts_succ, List.map_append, List.map_cons, List.map_nil, join_snoc _ _ _ (by
    intro h
    have := congrArg List.length h
    rw [List.length_map, texts_length] at this
    simp at this
    omega)]
  simp [ByteArray.data_append]
theorem joined_one (F : Nat → Int × Int × ByteArray) (k : Nat) (hk : ¬ 0 < k) : joined F (k + 1) = joined F k ++ (F k).2.2 := by
  have e : k = 0 := by omega
  subst e
  apply ByteArray.ext
  apply Array.toList_inj.1
  unfold joined texts
  simp [List.range_succ, Lib.join_one, Lib.join_nil, ByteArray.data_append]
theorem joined_le (F : Nat → Int × Int × ByteArray) (n : Nat) : ∀ k, k ≤ n → (joined F k).size ≤ (joined F n).size := by
  induction n with
  | zero => intro k h; rw [Nat.le_zero.1 h]; exact Nat.le_refl _
  | succ n ih =>
    intro k h
    by_cases e : k = n + 1
    · rw [e]; exact Nat.le_refl _
    · refine Nat.le_trans (ih k (by omega)) ?_
      by_cases h0 : 0 < n
      · rw [joined_more F n h0, ByteArray.size_append, ByteArray.size_append]; omega
      · rw [joined_one F n h0, ByteArray.size_append]; omega
def TextIs (F : Nat → Int × Int × ByteArray) (n : Nat) (w : World) (e : Ending) (w' : World) : Prop :=
  (if okAll F n = true then e = .returned (.tuple #[.string (joined F n), .int .i64 0]) else e = .returned (.tuple #[.string ⟨#[]⟩, .int .i64 2])) ∧ Below w.heap.size w w'
theorem strInfo : (Try.prog.info? 9).map (fun i => (i.zero, i.size, i.bytes)) = some (some (.string ⟨#[]⟩), 1, 16) := by kernel_rfl
theorem strsType : Try.prog.underlying 48 = some (.slice 9) := by kernel_rfl
section
set_option maxHeartbeats 2000000
set_option maxRecDepth 100000
theorem rtext_any (v : Value) (n : Nat) (F : Nat → Int × Int × ByteArray) (w : World) (hv : SlM w v n F) (hn : n ≤ 1048576) (hF : ∀ k, k < n → (F k).2.2.size ≤ 1048576) (hJ : (joined F n).size ≤ 4194304) :
    Calls Try.prog 16 #[v] w (TextIs F n w) := by
  obtain ⟨A, ca, rfl, hA⟩ := hv
  have HA := Lib.hid hA
  have HF := Lib.hid hF
  clear hA hF
  go_enter Try.func16, Try.ntmps16
  go_wp2_with fail
  go_loopw [4, 5] (fun sv i wr => ∃ k : Nat, k ≤ n ∧ i = .int .i64 k ∧ sv = .string (joined F k) ∧ okAll F k = true ∧ Below w.heap.size w wr) (fun _ i _ => n - (intOf i).toNat)
  case atStart => exact ⟨0, Nat.zero_le _, rfl, rfl, rfl, Below.refl _ _⟩
  case round =>
    obtain ⟨k, hk, rfl, rfl, hok, hbl⟩ := hrel
    have HO := Lib.hid hok
    clear hok
    by_cases hlt : k < n
    · obtain ⟨b1, o1, rfl, l1, c1⟩ := HA.out (by omega)
      have hz := HF.out k hlt
      have hl1 := Nat.lt_of_lt_of_le l1 hbl.size
      have d1 := (hbl.cell (p := ⟨b1, o1 + k * 3, none⟩) l1).trans (c1 k hlt).1
      have d3 := (hbl.cell (p := ⟨b1, o1 + k * 3 + 2, none⟩) l1).trans (c1 k hlt).2.2
      clear c1
      have hdk : decide ((k : Int) < (n : Int)) = true := by rw [decide_eq_true_eq]; omega
      have hb3 : (kd (F k).2.2 != 0) = false ∧ okB F k = false ∨ (kd (F k).2.2 != 0) = true ∧ ((kd (F k).2.2 : Int) != (F k).1) = true ∧ okB F k = false ∨ (kd (F k).2.2 != 0) = true ∧ ((kd (F k).2.2 : Int) != (F k).1) = false ∧ okB F k = true := by
        unfold okB
        cases h1 : (kd (F k).2.2 != 0)
        · exact .inl ⟨rfl, rfl⟩
        · by_cases h2 : (kd (F k).2.2 : Int) = (F k).1
          · exact .inr (.inr ⟨rfl, by simp [h2], by simp [h2]⟩)
          · exact .inr (.inl ⟨rfl, by simp [h2], by simp [h2]⟩)
      rcases hb3 with ⟨B1, hb⟩ | ⟨B1, B2, hb⟩ | ⟨B1, B2, hb⟩
      · have HN := Lib.hid (okAll_no hb n hlt)
        clear hb
        go_wp2_with fail
        refine (rkind_any _ _ (by omega)).mono ?_
        rintro e w1 ⟨rfl, hb1⟩
        rw [B1]
        have d1' := (hb1.cell (p := ⟨b1, o1 + k * 3, none⟩) hl1).trans d1
        have HB := Lib.hid (hbl.trans (hb1.mono hbl.size))
        clear hb1 hbl d1 d3
        generalize kd (F k).2.2 = q at *
        go_wp2_with fail
        go_ret2
        exact ⟨by rw [if_neg (by rw [HN.out]; decide)]; rfl, HB.out⟩
      · have HN := Lib.hid (okAll_no hb n hlt)
        clear hb
        go_wp2_with fail
        refine (rkind_any _ _ (by omega)).mono ?_
        rintro e w1 ⟨rfl, hb1⟩
        rw [B1]
        have d1' := (hb1.cell (p := ⟨b1, o1 + k * 3, none⟩) hl1).trans d1
        have HB := Lib.hid (hbl.trans (hb1.mono hbl.size))
        clear hb1 hbl d1 d3
        generalize kd (F k).2.2 = q at *
        go_wp2_with fail
        go_ret2
        exact ⟨by rw [if_neg (by rw [HN.out]; decide)]; rfl, HB.out⟩
      · have HY := Lib.hid (show okAll F (k + 1) = true by rw [okAll_succ, HO.out, hb]; rfl)
        clear hb
        go_wp2_with fail
        refine (rkind_any _ _ (by omega)).mono ?_
        rintro e w1 ⟨rfl, hb1⟩
        rw [B1]
        have d1' := (hb1.cell (p := ⟨b1, o1 + k * 3, none⟩) hl1).trans d1
        have d3' := (hb1.cell (p := ⟨b1, o1 + k * 3 + 2, none⟩) hl1).trans d3
        have HB := Lib.hid (hbl.trans (hb1.mono hbl.size))
        clear hb1 hbl d1 d3
        generalize kd (F k).2.2 = q at *
        have hjk := joined_le F n k hk
        have hjk1 := joined_le F n (k + 1) hlt
        by_cases hk0 : 0 < k
        · have hdk0 : decide ((k : Int) > 0) = true := by rw [decide_eq_true_eq]; omega
          have hdk1 : decide (0 < (k : Int)) = true := by rw [decide_eq_true_eq]; omega
          have hj := joined_more F k hk0
          have hjz : (joined F k).size + 1 + (F k).2.2.size ≤ 4194304 := by
            rw [hj, ByteArray.size_append, ByteArray.size_append] at hjk1
            have : (⟨#[32]⟩ : ByteArray).size = 1 := rfl
            omega
          have HJ := Lib.hid hj
          clear hj hjk1
          go_wp2_with fail
          go_roundw
          case rel => exact ⟨k + 1, by omega, by go_num, by rw [HJ.out], HY.out, HB.out⟩
          case measure => simp [intOf]; omega
        · have hdk0 : decide ((k : Int) > 0) = false := by rw [decide_eq_false_iff_not]; omega
          have hdk1 : decide (0 < (k : Int)) = false := by rw [decide_eq_false_iff_not]; omega
          have HJ := Lib.hid (joined_one F k hk0)
          clear hjk1
          go_wp2_with fail
          go_roundw
          case rel => exact ⟨k + 1, by omega, by go_num, by rw [HJ.out], HY.out, HB.out⟩
          case measure => simp [intOf]; omega
    · have e : k = n := by omega
      have HE := Lib.hid e
      clear e
      go_wp2_with fail
      go_ret2
      refine ⟨?_, hbl⟩
      have ho := HO.out
      rw [HE.out] at ho
      rw [if_pos ho, ← HE.out]
      rfl
theorem text_any (v : Value) (n : Nat) (F : Nat → Int × Int × ByteArray) (w : World) (hv : SlM w v n F) (hn : n ≤ 1048576) (hF : ∀ k, k < n → (F k).2.2.size ≤ 1048576) (hJ : (joined F n).size ≤ 4194304) :
    Calls Try.prog 15 #[v] w (TextIs F n w) := by
  obtain ⟨i0, hi, hz0, hz1, hz2⟩ := info_parts strInfo
  obtain ⟨A, ca, rfl, hA⟩ := hv
  have HA := Lib.hid hA
  have HF := Lib.hid hF
  clear hA hF
  go_enter Try.func15, Try.ntmps15
  go_wp2_with fail
  go_loopw [4, 11] (fun sv i wr => ∃ k : Nat, k ≤ n ∧ i = .int .i64 k ∧ wr.ownsRow w.heap.size 9 1 sv k ((texts F k).map Value.string) ∧ okAll F k = true ∧ Below w.heap.size w wr) (fun _ i _ => n - (intOf i).toNat)
  case atStart => exact ⟨0, Nat.zero_le _, rfl, World.ownsRow_nil _ _ _ _, rfl, Below.refl _ _⟩
  case round =>
    obtain ⟨k, hk, rfl, hO, hok, hbl⟩ := hrel
    have HO := Lib.hid hok
    have HW := Lib.hid hO
    clear hok hO
    by_cases hlt : k < n
    · obtain ⟨b1, o1, rfl, l1, c1⟩ := HA.out (by omega)
      have hz := HF.out k hlt
      have hl1 := Nat.lt_of_lt_of_le l1 hbl.size
      have d1 := (hbl.cell (p := ⟨b1, o1 + k * 3, none⟩) l1).trans (c1 k hlt).1
      have d2 := (hbl.cell (p := ⟨b1, o1 + k * 3 + 1, none⟩) l1).trans (c1 k hlt).2.1
      have d3 := (hbl.cell (p := ⟨b1, o1 + k * 3 + 2, none⟩) l1).trans (c1 k hlt).2.2
      clear c1
      have hdk : decide ((k : Int) < (n : Int)) = true := by rw [decide_eq_true_eq]; omega
      have hb3 : (kd (F k).2.2 != 0) = false ∧ okB F k = false ∨ (kd (F k).2.2 != 0) = true ∧ ((kd (F k).2.2 : Int) != (F k).1) = true ∧ okB F k = false ∨ (kd (F k).2.2 != 0) = true ∧ ((kd (F k).2.2 : Int) != (F k).1) = false ∧ okB F k = true := by
        unfold okB
        cases h1 : (kd (F k).2.2 != 0)
        · exact .inl ⟨rfl, rfl⟩
        · by_cases h2 : (kd (F k).2.2 : Int) = (F k).1
          · exact .inr (.inr ⟨rfl, by simp [h2], by simp [h2]⟩)
          · exact .inr (.inl ⟨rfl, by simp [h2], by simp [h2]⟩)
      rcases hb3 with ⟨B1, hb⟩ | ⟨B1, B2, hb⟩ | ⟨B1, B2, hb⟩
      · have HN := Lib.hid (okAll_no hb n hlt)
        clear hb
        go_wp2_with fail
        refine (kindT_any _ _ (by omega)).mono ?_
        rintro e w1 ⟨rfl, hb1⟩
        rw [B1]
        have d1' := ((hbl.alloc hbl.size _).trans (hb1.mono (by simp; have := hbl.size; omega)))
        have c0 := (hb1.cell (p := ⟨wr.heap.size, 0, none⟩) (by simp)).trans (new_cell wr _ _ wr.heap.size 0 rfl)
        have c0 : w1.cell? ⟨wr.heap.size, 0, none⟩ = some (.int .i64 (F k).1) := c0
        have HB := Lib.hid d1'
        clear hb1 hbl d1 d2 d3 d1'
        generalize kd (F k).2.2 = q at *
        go_wp2_with fail
        go_ret2
        exact ⟨by rw [if_neg (by rw [HN.out]; decide)]; rfl, HB.out⟩
      · have HN := Lib.hid (okAll_no hb n hlt)
        clear hb
        go_wp2_with fail
        refine (kindT_any _ _ (by omega)).mono ?_
        rintro e w1 ⟨rfl, hb1⟩
        rw [B1]
        have d1' := ((hbl.alloc hbl.size _).trans (hb1.mono (by simp; have := hbl.size; omega)))
        have c0 := (hb1.cell (p := ⟨wr.heap.size, 0, none⟩) (by simp)).trans (new_cell wr _ _ wr.heap.size 0 rfl)
        have c0 : w1.cell? ⟨wr.heap.size, 0, none⟩ = some (.int .i64 (F k).1) := c0
        have HB := Lib.hid d1'
        clear hb1 hbl d1 d2 d3 d1'
        generalize kd (F k).2.2 = q at *
        go_wp2_with fail
        go_ret2
        exact ⟨by rw [if_neg (by rw [HN.out]; decide)]; rfl, HB.out⟩
      · have HY := Lib.hid (show okAll F (k + 1) = true by rw [okAll_succ, HO.out, hb]; rfl)
        clear hb
        go_wp2_with fail
        refine (kindT_any _ _ (by omega)).mono ?_
        rintro e w1 ⟨rfl, hb1⟩
        rw [B1]
        have d1' := ((hbl.alloc hbl.size (.cells #[.int .i64 (F k).1, .int .i64 (F k).2.1, .string (F k).2.2] 29)).trans (hb1.mono (by simp; have := hbl.size; omega)))
        have c0 := (hb1.cell (p := ⟨wr.heap.size, 0, none⟩) (by simp)).trans (new_cell wr _ _ wr.heap.size 0 rfl)
        have c2 := (hb1.cell (p := ⟨wr.heap.size, 2, none⟩) (by simp)).trans (new_cell wr _ _ wr.heap.size 2 rfl)
        replace c0 : w1.cell? ⟨wr.heap.size, 0, none⟩ = some (.int .i64 (F k).1) := c0
        replace c2 : w1.cell? ⟨wr.heap.size, 2, none⟩ = some (.string (F k).2.2) := c2
        have HW1 := Lib.hid (own_stay (HW.out.alloc (.cells #[.int .i64 (F k).1, .int .i64 (F k).2.1, .string (F k).2.2] 29)) hb1 (Nat.le_refl _))
        have hs1 := d1'.size
        have HB := Lib.hid d1'
        clear hb1 hbl d1 d2 d3 d1' HW
        generalize kd (F k).2.2 = q at *
        go_wp2_with (at_builtin; refine wpList_append_own _ rfl _ _ 48 rfl w.heap.size 9 i0 (.string ⟨#[]⟩) 1 16 strsType hi hz0 hz1 hz2 rfl (by decide) _ _ _ rfl (HW1.out.alloc _) _ 1 1 [.string (F k).2.2] rfl rfl ?c1 ?c2 ?c3 ?c4 ?c5 ?_)
        try
          case c1 =>
            intro m u hm
            match m, hm with
            | 0, hm => simp at hm; subst hm; simp only [Addr.add, if_pos]; exact (new_cell _ _ _ _ 0 (by simp)).trans rfl
        case c2 => first | rfl | (intro u hu; simp at hu; subst hu; rfl)
        case c3 => unfold maxLen; omega
        case c4 => omega
        case c5 => first | omega | (simp; omega)
        · intro v' w5 hown hgrow _
          have hO5 : w5.ownsRow w.heap.size 9 1 v' (k + 1) ((texts F (k + 1)).map Value.string) := by
            rw [texts_succ, List.map_append]; exact hown
          have db5 := HB.out.trans (((Below.refl _ _).alloc (by omega) _).trans ((Below.refl _ _).grown hgrow (by simp; omega) (fun q hq => (HW1.out.lt q hq).1)))
          have HO5 := Lib.hid hO5
          have HB5 := Lib.hid db5
          clear hown hgrow hO5 db5 HW1 HB
          go_wp2_with fail
          go_roundw
          case rel => exact ⟨k + 1, by omega, by go_num, HO5.out, HY.out, HB5.out⟩
          case measure => simp [intOf]; omega
    · have HE := Lib.hid (show k = n by omega)
      have hlen : (texts F k).length = k := texts_length F k
      have hJ' : (Lib.join ((texts F k).map (·.data.toList)) [32]).length ≤ 4194304 := by
        rw [HE.out]
        have : (joined F n).size = (Lib.join ((texts F n).map (·.data.toList)) [32]).length := by unfold joined; simp [ByteArray.size]
        omega
      have hdk : decide ((k : Int) < (n : Int)) = false := by rw [decide_eq_false_iff_not]; omega
      have fin : (if okAll F n = true then Ending.returned (.tuple #[.string (joined F k), .int .i64 0]) = Ending.returned (.tuple #[.string (joined F n), .int .i64 0]) else False) := by
        have ho := HO.out
        rw [HE.out] at ho ⊢
        rw [if_pos ho]
      have HFIN := Lib.hid fin
      clear fin
      rcases Nat.eq_zero_or_pos k with h0 | h0
      · have hv : ∃ a c, u4 = .slice a 0 c := by
          have hw := HW.out
          rw [h0] at hw
          rcases hw.2 with ⟨h, _⟩ | ⟨g, cap, cur, h, _⟩
          · exact ⟨none, 0, h⟩
          · exact ⟨_, cap, h⟩
        obtain ⟨a, c, rfl⟩ := hv
        have H0 := Lib.hid (show joined F k = ⟨#[]⟩ by rw [h0]; rfl)
        clear h0 hlen hJ'
        go_wp2_with fail
        refine (Try.strings_Join_none _ _ _ _).mono ?_
        rintro e w1 ⟨rfl, rfl⟩
        go_wp2_with fail
        go_ret2
        refine ⟨?_, hbl⟩
        have hf := HFIN.out
        rw [H0.out] at hf
        split at hf
        · rename_i ho; rw [if_pos ho]; exact hf
        · exact hf.elim
      · obtain ⟨g, cap, rfl, hg1, hg2⟩ := World.ownsRow.form HW.out h0
        have hcap : k ≤ cap := by
          rcases HW.out.2 with ⟨h, _⟩ | ⟨g', cap', cur, h, _, _, h2, _⟩
          · cases h
          · cases h; exact h2
        have JN := Try.strings_Join g 0 cap (texts F k) ⟨#[32]⟩ wr (fun j x hj => by
          have hjk : j < k := by rw [← hlen]; exact (List.getElem?_eq_some_iff.1 hj).1
          rw [Nat.zero_add, HW.out.cellAt j (by omega), List.getElem?_map, hj]; rfl) hg2 (by omega) (by omega) (Nat.le_trans hJ' (by decide))
        rw [hlen] at JN
        clear hlen hJ' h0
        go_wp2_with fail
        refine JN.mono ?_
        rintro e w1 ⟨rfl, hb1⟩
        have HB := Lib.hid (hbl.trans (hb1.mono hbl.size))
        clear hb1 hbl
        go_wp2_with fail
        go_ret2
        refine ⟨?_, HB.out⟩
        have hf := HFIN.out
        split at hf
        · rename_i ho; rw [if_pos ho]; exact hf
        · exact hf.elim
end
end Go.Proofs.Ytogobjokjpddbaa
