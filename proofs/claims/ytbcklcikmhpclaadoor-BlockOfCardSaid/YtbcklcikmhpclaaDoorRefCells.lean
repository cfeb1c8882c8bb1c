/-
  The reference's Cells.
-/
import Derived.Test.YtbcklcikmhpclaaDoorList
import Derived.Test.YtbcklcikmhpclaaDoorWork
import Derived.Test.YtbcklcikmhpclaaDoorRefClose
import Derived.Test.YtbcklcikmhpclaaDoorLaw
namespace Go.Proofs.YtbcklcikmhpclaaDoor
open Go.RowKit
set_option linter.unusedVariables false
set_option linter.unusedSimpArgs false
theorem cellInfo : (Tryd.prog.info? 31).map (fun i => (i.zero, i.size, i.bytes)) = some (some (.agg #[.int .i64 0, .int .i64 0]), 2, 16) := by kernel_rfl
/-- A list of cells as memory has it. -/
def flat : List (Nat × Nat) → List Value
  | [] => []
  | (r, c) :: l => .int .i64 (r : Int) :: .int .i64 (c : Int) :: flat l
theorem flat_append : ∀ l m, flat (l ++ m) = flat l ++ flat m
  | [], m => rfl
  | (r, c) :: l, m => by simp [flat, flat_append l m]
theorem flat_length : ∀ l, (flat l).length = l.length * 2
  | [] => rfl
  | (r, c) :: l => by simp [flat, flat_length l]; omega
/-- The cells of the first r rows, and of row r those before column c. -/
def cellsTo (f : Nat → Nat) (r c : Nat) : List (Nat × Nat) := cellsUp f r ++ ((List.range c).filter fun j => (f r).testBit j).map fun j => (r, j)
theorem cellsTo_zero (f : Nat → Nat) (r : Nat) : cellsTo f r 0 = cellsUp f r := by simp [cellsTo]
theorem cellsTo_end (f : Nat → Nat) (r : Nat) : cellsTo f r 64 = cellsUp f (r + 1) := rfl
theorem cellsTo_yes (f : Nat → Nat) (r c : Nat) (h : (f r).testBit c = true) : cellsTo f r (c + 1) = cellsTo f r c ++ [(r, c)] := by
  unfold cellsTo; rw [List.range_succ, List.filter_append, List.map_append]; simp [h]
theorem cellsTo_no (f : Nat → Nat) (r c : Nat) (h : (f r).testBit c = false) : cellsTo f r (c + 1) = cellsTo f r c := by
  unfold cellsTo; rw [List.range_succ, List.filter_append, List.map_append]; simp [h]
theorem cellsTo_le (f : Nat → Nat) (r c : Nat) : (cellsTo f r c).length ≤ 64 * r + c := by
  have h1 := cellsUp_le f r
  have h2 := List.length_filter_le (fun j => (f r).testBit j) (List.range c)
  simp [cellsTo] at h2 ⊢
  omega
abbrev OwnC (w0 w : World) (v : Value) (l : List (Nat × Nat)) : Prop := w.ownsRow (w0.heap.size + 1) 31 2 v l.length (flat l)
theorem own_stay {w w' : World} {base n : Nat} {v : Value} {e : TypeId} {size B : Nat} {xs : List Value} (h : w.ownsRow base e size v n xs) (hb : Below B w w') (hB : w.heap.size ≤ B) : w'.ownsRow base e size v n xs := by
  refine ⟨h.1, ?_⟩
  rcases h.2 with hn | ⟨g, cap, cur, rfl, hbb, hh, rest⟩
  · exact .inl hn
  · have hg := (Array.getElem?_eq_some_iff.1 hh).1
    exact .inr ⟨g, cap, cur, rfl, hbb, (hb.block g (by omega)).trans hh, rest⟩
section
set_option maxHeartbeats 2000000
set_option maxRecDepth 100000
theorem rcells_any (f : Nat → Nat) (w : World) :
    Calls Tryd.prog 10 #[.agg (Rw f)] w fun e w' => (∃ v, e = .returned v ∧ OwnC w w' v (cellsUp f 64)) ∧ Below w.heap.size w w' := by
  have hz : ∀ w, (zeroValue 25).run Tryd.prog w = .ok (.agg (Rw fun _ => 0)) w := (zero_of_info blockZero).1
  obtain ⟨i0, hi, hz0, hz1, hz2⟩ := info_parts cellInfo
  go_enter Tryd.func10, Tryd.ntmps10
  go_wp2_with fail
  go_loopw [3, 4] (fun v i wr => ∃ r : Nat, r ≤ 64 ∧ i = .int .i64 r ∧ OwnC w wr v (cellsUp f r) ∧ Hold wr w.heap.size (Rw f) ∧ Below w.heap.size w wr) (fun _ i _ => 64 - (intOf i).toNat)
  case atStart => exact ⟨0, Nat.zero_le _, rfl, World.ownsRow_nil _ _ _ _, Hold.new rfl, (Below.refl _ _).alloc (Nat.le_refl _) _⟩
  case round =>
    obtain ⟨r, hr, rfl, hO, d0, db⟩ := hrel
    have HO := Lib.hid hO
    clear hO
    by_cases hr6 : r < 64
    · obtain ⟨wo, rfl⟩ : ∃ wo : World, wo = wr := ⟨_, rfl⟩
      have hdr : decide ((r : Int) < 64) = true := by rw [decide_eq_true_eq]; omega
      go_wp2_with fail
      go_loopw [3, 5] (fun v i wr => ∃ c : Nat, c ≤ 64 ∧ i = .int .i64 c ∧ OwnC w wr v (cellsTo f r c) ∧ Hold wr w.heap.size (Rw f) ∧ Below w.heap.size w wr) (fun _ i _ => 64 - (intOf i).toNat)
      case atStart => exact ⟨0, Nat.zero_le _, rfl, by rw [cellsTo_zero]; exact HO.out, d0, db⟩
      case round =>
        clear d0 db HO
        obtain ⟨c, hc, rfl, hO, d0, db⟩ := hrel
        have HO := Lib.hid hO
        clear hO
        by_cases hc6 : c < 64
        · have hdc : decide ((c : Int) < 64) = true := by rw [decide_eq_true_eq]; omega
          go_wp2_with (first | (apply wpList_ld rfl _ rfl _ rfl; focus ((repeat' (first | (with_reducible assumption) | ((with_reducible refine Hold.new ?_); first | (with_reducible rfl) | (simp; done)) | (with_reducible apply Hold.alloc) | (with_reducible apply Hold.row) | ((with_reducible apply Hold.other); rotate_left; focus (first | omega | (simp; omega))))); done)) | (apply wpList_st rfl _ _ rfl _ rfl _ rfl; focus ((repeat' (first | (with_reducible assumption) | ((with_reducible refine Hold.new ?_); first | (with_reducible rfl) | (simp; done)) | (with_reducible apply Hold.alloc) | (with_reducible apply Hold.row) | ((with_reducible apply Hold.other); rotate_left; focus (first | omega | (simp; omega))))); done)) | (refine wpList_bd rfl rfl ?_))
          refine (has_below2 f r c _ hr6 hc6).mono ?_
          rintro e w1 ⟨rfl, hb1⟩
          have d1 := d0.below hb1 d0.lt
          have db1 := db.trans (hb1.mono db.size)
          have HO1 := Lib.hid (own_stay HO.out hb1 (Nat.le_refl _))
          have hle := cellsTo_le f r c
          have hl1 := d1.lt
          clear hb1 d0 db HO
          cases hb : bt f r c
          · rw [← cellsTo_no f r c hb] at HO1
            go_wp2_with fail
            go_roundw
            case rel => exact ⟨c + 1, by omega, by go_num, HO1.out, d1, db1⟩
            case measure => simp [intOf]; omega
          · go_wp2_with (first | (apply wpList_ld rfl _ rfl _ rfl; focus ((repeat' (first | (with_reducible assumption) | ((with_reducible refine Hold.new ?_); first | (with_reducible rfl) | (simp; done)) | (with_reducible apply Hold.alloc) | (with_reducible apply Hold.row) | ((with_reducible apply Hold.other); rotate_left; focus (first | omega | (simp; omega))))); done)) | (apply wpList_st rfl _ _ rfl _ rfl _ rfl; focus ((repeat' (first | (with_reducible assumption) | ((with_reducible refine Hold.new ?_); first | (with_reducible rfl) | (simp; done)) | (with_reducible apply Hold.alloc) | (with_reducible apply Hold.row) | ((with_reducible apply Hold.other); rotate_left; focus (first | omega | (simp; omega))))); done)) | (refine wpList_bd rfl rfl ?_) | (at_builtin; refine wpList_append_own _ rfl _ _ 22 rfl (w.heap.size + 1) 31 i0 (.agg #[.int .i64 0, .int .i64 0]) 2 16 cellType hi hz0 hz1 hz2 rfl (by decide) _ _ _ rfl (HO1.out.alloc _) _ 1 1 [.int .i64 (r : Int), .int .i64 (c : Int)] rfl rfl ?c1 ?c2 ?c3 ?c4 ?c5 ?_))
            case c1 =>
              intro j u hj
              match j, hj with
              | 0, hj => simp at hj; subst hj; simp only [Addr.add, if_pos]; exact (new_cell _ _ _ _ 0 (by simp)).trans rfl
              | 1, hj => simp at hj; subst hj; exact (new_cell _ _ _ _ 1 (by simp)).trans rfl
            case c2 => intro u hu; simp at hu; rcases hu with rfl | rfl <;> rfl
            case c3 => unfold maxLen; omega
            case c4 => omega
            case c5 => have := db1.size; simp; omega
            · intro v' w5 hown hgrow _
              have hO5 : OwnC w w5 v' (cellsTo f r (c + 1)) := by
                rw [cellsTo_yes f r c hb]; unfold OwnC; rw [flat_append, List.length_append]; exact hown
              have hb5 : Below (w.heap.size + 1) w1 w5 := ((Below.refl _ _).alloc (by omega) _).trans ((Below.refl _ _).grown hgrow (by simp; omega) (fun q hq => (HO1.out.lt q hq).1))
              have d5 := d1.below hb5 (by omega)
              have db5 := db1.trans (hb5.mono (by omega))
              clear hown hgrow HO1 d1 db1 hb5
              go_wp2_with fail
              go_roundw
              case rel => exact ⟨c + 1, by omega, by go_num, hO5, d5, db5⟩
              case measure => simp [intOf]; omega
        · have e : c = 64 := by omega
          subst e
          rw [cellsTo_end] at HO
          go_wp2_with fail
          go_roundw
          case rel => exact ⟨r + 1, by omega, by go_num, HO.out, d0, db⟩
          case measure => simp [intOf]; omega
    · have e : r = 64 := by omega
      subst e
      go_wp2_with fail
      go_ret
      exact ⟨⟨_, rfl, HO.out⟩, db⟩
end
end Go.Proofs.YtbcklcikmhpclaaDoor
