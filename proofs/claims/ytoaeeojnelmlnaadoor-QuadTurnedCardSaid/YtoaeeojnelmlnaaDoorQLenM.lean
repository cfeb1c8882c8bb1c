/-
  Len of a matrix: how many cells there are.
-/
import Derived.Test.YtoaeeojnelmlnaaDoorQNum
namespace Go.Proofs.YtoaeeojnelmlnaaDoor
open Go.RowKit
set_option linter.unusedVariables false
set_option linter.unusedSimpArgs false
section
variable {w w' : World} {B side lv root : Nat} {nv lvv : Value} {ns : List (Nat → Nat)} {A : Nat → Nat → Nat → Nat} {ps : List (Nat × Nat)} {F : Nat → Prop} {M : Nat → Nat → Bool}
theorem Qd.sum (h : Qd w B side lv root nv lvv ns A ps M) : (ps.map fun p => lenB (blk (sub M p.1 p.2)) 64).sum = numM M := by
  rw [sum_places (fun p => lenB (blk (sub M p.1 p.2)) 64) ps h.tree.nodup h.small fun a b hm => ?_]
  · exact sumN_congr fun i _ => sumN_congr fun j _ => len_num _
  · show lenB (blk (sub M a b)) 64 = 0
    rw [len_num]
    have hz : A 0 a b = 0 := Classical.byContradiction fun hne => hm (List.mem_of_getElem? (h.tree.leaf a b hne))
    unfold numB
    have : ∀ r, r < 64 → sumN (fun c => one (sub M a b r c)) 64 = 0 := fun r hr => by
      rw [sumN_congr (g := fun _ => 0) fun c hc => by rw [show sub M a b r c = false from h.bare a b hz r c hr hc]; rfl]
      exact sumN_zero _
    rw [sumN_congr this]
    exact sumN_zero _
theorem take_sum (g : Nat × Nat → Nat) (l : List (Nat × Nat)) {k : Nat} {p : Nat × Nat} (h : l[k]? = some p) : ((l.take (k + 1)).map g).sum = ((l.take k).map g).sum + g p := by
  rw [List.take_add_one, h]; simp
theorem sum_take_le (g : Nat × Nat → Nat) (l : List (Nat × Nat)) (k : Nat) : ((l.take k).map g).sum ≤ (l.map g).sum := by
  have : (l.map g).sum = ((l.take k).map g).sum + ((l.drop k).map g).sum := by
    rw [← List.sum_append, ← List.map_append, List.take_append_drop]
  omega
section
set_option maxHeartbeats 4000000
set_option maxRecDepth 100000
theorem qlen_any (h : Mx w B F side M) : Calls Tryd.prog 31 #[.pointer (some ⟨B, 0, none⟩)] w fun e w' => e = .returned (.int .i64 (numM M : Nat)) ∧ Far (fun _ => False) w w' := by
  have hz : ∀ w, (zeroValue 97).run Tryd.prog w = .ok (.agg (Rw fun _ => 0)) w := (zero_of_info blockZero).1
  have N := h.none_no
  have hle := numM_le M
  obtain ⟨lv, root, nv, lvv, ns, A, ps, hq, _, rfl⟩ := h
  have hsum := hq.sum
  obtain ⟨ao, cap, hsl⟩ := q_form hq.leaves
  subst hsl
  have p4 : w.cell? ⟨B, 4, none⟩ = some (.slice ao ps.length cap) := hq.box.cell 4
  have hmany := hq.many
  have hq' := Lib.hid hq
  have hsum' := Lib.hid hsum
  clear hq hsum
  go_enter Tryd.func31, Tryd.ntmps31
  go_wp2_with fail
  refine N.mono ?_
  rintro e w' ⟨rfl, rfl⟩
  go_wp2_with fail
  clear p4
  go_loopw [3, 13] (fun nn iv wr => ∃ k : Nat, k ≤ ps.length ∧ iv = .int .i64 (k : Nat) ∧ nn = .int .i64 (((ps.take k).map fun p => lenB (blk (sub M p.1 p.2)) 64).sum : Nat) ∧ Far (fun _ => False) w wr) (fun _ iv _ => ps.length - (intOf iv).toNat)
  case atStart => exact ⟨0, Nat.zero_le _, rfl, by simp, Far.refl _ w⟩
  case round =>
    obtain ⟨k, hk, rfl, rfl, hf⟩ := hrel
    by_cases hlt : k < ps.length
    · have hp := List.getElem?_eq_getElem hlt
      obtain ⟨p, hpe⟩ : ∃ p, ps[k] = p := ⟨_, rfl⟩
      rw [hpe] at hp
      have hqr := hq'.out.still hf
      obtain ⟨g, c2, hsv, _⟩ := hqr.leaves.form (by omega)
      cases hsv
      have hr : wr.rangeAt g (k * 64) (Rw (blk (sub M p.1 p.2))).toList := own_range hqr.leaves (lrows_even M ps) (lrows_get hp)
      have dk : (k : Int) < (ps.length : Int) := by omega
      have ht := take_sum (fun p => lenB (blk (sub M p.1 p.2)) 64) ps hp
      have hl1 := sum_take_le (fun p => lenB (blk (sub M p.1 p.2)) 64) ps (k + 1)
      rw [hsum'.out] at hl1
      obtain ⟨s, hs⟩ : ∃ s, ((ps.take k).map fun p => lenB (blk (sub M p.1 p.2)) 64).sum = s := ⟨_, rfl⟩
      rw [hs] at ht ⊢
      have ht' := Lib.hid ht
      have hf' := Lib.hid hf
      rw [ht] at hl1
      obtain ⟨y, hy⟩ : ∃ y, lenB (blk (sub M p.1 p.2)) 64 = y := ⟨_, rfl⟩
      have LE := fun w' => len_any (blk (sub M p.1 p.2)) w' (blk_wf _)
      rw [hy] at LE hl1
      have hy' := Lib.hid hy
      clear hqr hf hpe ht hs hy
      go_wp2_with (first | (refine wpList_lf rfl _ rfl _ _ rfl hr ?_) | (apply wpList_st rfl _ _ rfl _ rfl _ rfl; focus (exact Hold.new rfl)) | (apply wpList_ld rfl _ rfl _ rfl; focus (exact Hold.row (Hold.new rfl) _)))
      refine (LE _).mono ?_
      rintro e w2 ⟨rfl, hb⟩
      have hf2 := Lib.hid ((hf'.out.then (far_row (F := fun _ => False) ((Far.refl _ wr).alloc (.cells (Rw fun _ => 0) 97)) (fun h => absurd h (Nat.lt_irrefl _)) (Rw (blk (sub M p.1 p.2))))).then (below_far hb))
      clear LE hb hr
      go_wp2_with fail
      go_roundw
      case rel => exact ⟨k + 1, by omega, by simp, by rw [ht'.out, hy'.out]; simp, hf2.out⟩
      case measure => simp only [intOf]; omega
    · have e : k = ps.length := by omega
      subst e
      go_wp2_with fail
      go_ret
      refine ⟨?_, hf⟩
      have := hsum'.out
      rw [List.take_length, this]
      rfl
end
end
end Go.Proofs.YtoaeeojnelmlnaaDoor
