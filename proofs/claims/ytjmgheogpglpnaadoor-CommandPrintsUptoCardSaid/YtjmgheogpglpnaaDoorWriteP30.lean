/-
  The program writes names and numbers.
-/
import Derived.Test.YtjmgheogpglpnaaDoorWrite30
import Derived.Test.YtjmgheogpglpnaaDoorNumber30
import Derived.Lib.SliceRun
namespace Go.Proofs.YtjmgheogpglpnaaDoor
open Go.RowKit
set_option linter.unusedVariables false
set_option linter.unusedSimpArgs false
section
set_option maxHeartbeats 4000000
set_option maxRecDepth 100000
theorem q24 (w : World) (a : Option Addr) (n c n' c' : Nat) : (binOp .eql 24 (.slice a n c) (.slice none n' c')).run Tryd.prog w = .ok (.bool a.isNone) w := Lib.run_eql_slice_nil w _ _ a n c n' c' Tryd.underlying24
theorem clone_any (V : Value) (l : List Tx) (w : World) (h : TxS w V l) (hn : l.length ≤ 1099511627776) : Calls Tryd.prog 59 #[V] w fun e w' => ∃ v, e = .returned v ∧ w'.ownsRow w.heap.size 9 1 v l.length (l.map st) ∧ Far (fun _ => False) w w' := by
  have Q := q24
  obtain ⟨n, hl⟩ : ∃ n, n = l.length := ⟨_, rfl⟩
  unfold TxS at h
  rw [← hl] at h hn ⊢
  rcases h.2 with ⟨rfl, rfl⟩ | ⟨a, c, rfl, _⟩
  · have e : l = [] := List.length_eq_zero_iff.1 hl.symm
    subst e
    clear hl h
    go_enter Tryd.func59, Tryd.ntmps59
    go_wp2_with fail
    go_ret
    exact ⟨_, rfl, World.ownsRow_nil _ _ _ _, Far.refl _ _⟩
  · obtain ⟨pi, pz, pi1, pi2, pi3, pi4, pi5⟩ := info3 info_str
    have A7 : 0 < 1 := by decide
    have f1 : Far (fun _ => False) w (w.alloc (.cells #[] 9)) := (Far.refl _ w).alloc _
    have B1 := Lib.hid (own_room (w := w.alloc (.cells #[] 9)) (base := w.heap.size) (cap := 0) (Bk.new rfl) (Nat.le_refl _) rfl (Nat.zero_le _))
    have B2 := Lib.hid (h.move f1)
    have B3 := Lib.hid (st_one l)
    have B4 : 0 + n ≤ maxLen := by unfold maxLen; omega
    have B5 : (0 + n) * 16 ≤ 140737488355328 := by omega
    have B6 : w.heap.size ≤ (w.alloc (.cells #[] 9)).heap.size := by simp
    have hf := Lib.hid f1
    clear h f1 hl
    go_enter Tryd.func59, Tryd.ntmps59
    go_wp2_with (at_builtin; go_loud (refine wpList_app rfl _ _ 24 rfl w.heap.size 9 pi pz 1 16 Tryd.underlying24 pi1 pi2 pi3 pi4 pi5 A7 (.slice (some ⟨w.heap.size, 0, none⟩) 0 0) 0 _ rfl B1.out (.slice (some a) n c) n _ rfl B2.out B3.out B4 B5 B6 ?_; intro v2 w5 ho5 hg5; have ho5' := Lib.hid ho5; have hg5' := Lib.hid hg5; clear ho5 hg5))
    go_ret
    exact ⟨_, rfl, by have := ho5'.out; rw [Nat.zero_add, List.nil_append] at this; exact this, hf.out.out (grown_far hg5'.out) (fun k hk e => by have := (B1.out.lt k e).1; omega)⟩
theorem writePaths_any (V : Value) (c : CI) (w : World) (h : CmW w V c) (hn : c.names.length + c.nums.length ≤ 1099511627776) (hI : ∀ n ∈ c.nums, -9223372036854775808 ≤ n ∧ n ≤ 9223372036854775807) (hL : Lw w) : Calls Tryd.prog 46 #[V] w fun e w' => ∃ ov, e = .returned ov ∧ TxS w' ov (c.names ++ c.nums.map Lib.itoa) ∧ Far (fun _ => False) w w' := by
  obtain ⟨nv, mv, rfl, h1, h2⟩ := h
  obtain ⟨no, nc, rfl⟩ := h1.form
  obtain ⟨mo, mc, rfl⟩ := Src.form h2
  obtain ⟨kb, hkb⟩ : ∃ k, k = w.heap.size := ⟨_, rfl⟩
  obtain ⟨wb, hwb⟩ : ∃ W, W = w.alloc (.cells #[.int .i64 c.v, .int .i64 c.how, .slice no c.names.length nc, .slice mo c.nums.length mc, .string ⟨c.text.toArray⟩] 27) := ⟨_, rfl⟩
  have hF := Lib.hid (show Far (fun _ => False) w wb from hwb ▸ (Far.refl _ w).alloc _)
  have hB := Lib.hid (hwb ▸ Bk.new hkb : Bk wb kb 27 #[.int .i64 c.v, .int .i64 c.how, .slice no c.names.length nc, .slice mo c.nums.length mc, .string ⟨c.text.toArray⟩])
  have q2 : wb.cell? ⟨kb, 2, none⟩ = some (.slice no c.names.length nc) := hB.out.cell 2
  have CL := clone_any (.slice no c.names.length nc) c.names wb (h1.move hF.out) (by omega)
  obtain ⟨m, hm⟩ : ∃ m, m = c.nums.length := ⟨_, rfl⟩
  have h2b : Src wb 1 (.slice mo m mc) m (c.nums.map fun n => Value.int .i64 n) := by rw [hm]; exact h2.move hF.out
  rw [← hm] at hB hwb hn ⊢
  have h2' := Lib.hid h2b
  have hm' := Lib.hid hm
  have hI' := Lib.hid hI
  have hL' := Lib.hid (hL.far hF.out fun _ _ h => h)
  have hmx : m ≤ 1099511627776 := by omega
  clear h1 h2 h2b hm hI hL
  go_enter Tryd.func46, Tryd.ntmps46
  go_upto_region 1 with fail
  rw [← hkb, ← hwb]
  clear hkb hwb
  go_wp2_with (go_at_call 59; refine CL.mono ?_; rintro e w1 ⟨v1, rfl, ho1, hf1⟩; obtain ⟨so1, cap1, rfl⟩ := Src.form (Src.own ho1); have q3 : w1.cell? ⟨kb, 3, none⟩ = some (.slice mo m mc) := (hB.out.far' hf1 id).cell 3; have ho1' := Lib.hid ho1; have hf1' := Lib.hid hf1; clear ho1 hf1)
  clear q3
  go_loopw [3, 12] (fun ov iv wr => ∃ (i : Nat) (so : Option Addr) (cap : Nat), ov = .slice so (c.names.length + i) cap ∧ iv = .int .i64 i ∧ i ≤ m ∧ wr.ownsRow wb.heap.size 9 1 (.slice so (c.names.length + i) cap) (c.names.length + i) ((c.names ++ (c.nums.take i).map Lib.itoa).map st) ∧ Far (fun _ => False) wb wr) (fun _ iv _ => m - (intOf iv).toNat)
  case atStart => exact ⟨0, so1, cap1, rfl, rfl, Nat.zero_le _, by simpa using ho1'.out, hf1'.out⟩
  case round =>
    obtain ⟨i, so, cap, rfl, rfl, hi, ho, hf⟩ := hrel
    obtain ⟨L, hL2⟩ : ∃ L, L = c.names.length + i := ⟨_, rfl⟩
    rw [← hL2] at ho ⊢
    have hLb : L ≤ 2199023255552 := by omega
    have hL2' := Lib.hid hL2
    have ho' := Lib.hid ho
    have hf' := Lib.hid hf
    by_cases hlt : i < m
    · have e1 : decide ((i : Int) < (m : Int)) = true := by rw [decide_eq_true_eq]; omega
      have hii : (i : Int) < (m : Int) := by omega
      obtain ⟨x, hx⟩ : ∃ x, c.nums[i]? = some x := ⟨c.nums[i]'(by have := hm'.out; omega), List.getElem?_eq_getElem _⟩
      obtain ⟨gb, off, mc2, hmo, hgl, hcs⟩ := Src.at h2'.out (by rw [List.length_map, ← hm'.out]; omega)
      injection hmo with hmo1 _ hmo3
      subst hmo1 hmo3
      have dx : wr.cell? ⟨gb, off + i, none⟩ = some (.int .i64 x) := (cell_eq (hf.block gb hgl id)).trans (hcs i _ (by rw [List.getElem?_map, hx]; rfl))
      have hxr := hI'.out x (List.mem_of_getElem? hx)
      have hT := Lib.hid (show (c.names ++ (c.nums.take i).map Lib.itoa).map st ++ [st (Lib.itoa x)] = (c.names ++ (c.nums.take (i + 1)).map Lib.itoa).map st by rw [List.take_add_one, hx]; simp)
      have IT := itoa_any x wr hxr.1 hxr.2 (hL'.out.far hf fun _ _ h => h)
      have hL3 := Lib.hid (show c.names.length + (i + 1) = L + 1 by omega)
      clear hx hcs hL2 ho hf
      obtain ⟨y, hy⟩ : ∃ y, y = Lib.itoa x := ⟨_, rfl⟩
      rw [← hy] at IT hT
      clear hy
      obtain ⟨pi, pz, pi1, pi2, pi3, pi4, pi5⟩ := info3 info_str
      have A7 : 0 < 1 := by decide
      have B4 : L + 1 ≤ maxLen := by unfold maxLen; omega
      have B5 : (L + 1) * 16 ≤ 140737488355328 := by omega
      go_wp2_with (first
        | (go_at_call 38; refine IT.mono ?_; rintro e w4 ⟨rfl, hf4⟩; have hf4' := Lib.hid hf4; have C1 := Lib.hid (row_far (row_far ho'.out hf4 fun _ _ h => h) ((Far.refl (fun _ => False) w4).alloc (.cells #[.string ⟨y.toArray⟩] 9)) fun _ _ h => h); have C2 := Lib.hid (src_new w4 9 [st y]); have C6 : wb.heap.size ≤ (w4.alloc (.cells #[.string ⟨y.toArray⟩] 9)).heap.size := (by have := (hf'.out.then hf4).size; simp; omega); have C3 := Lib.hid (st_one [y]); clear hf4)
        | (at_builtin; go_loud (refine wpList_app rfl _ _ 24 rfl wb.heap.size 9 pi pz 1 16 Tryd.underlying24 pi1 pi2 pi3 pi4 pi5 A7 (.slice so L cap) L _ rfl C1.out (.slice (some ⟨w4.heap.size, 0, none⟩) 1 1) 1 _ rfl C2.out C3.out B4 B5 C6 ?_; intro v2 w5 ho5 hg5; obtain ⟨so5, cap5, rfl⟩ := Src.form (Src.own ho5); have ho5' := Lib.hid ho5; have hg5' := Lib.hid hg5; clear ho5 hg5)))
      go_roundw
      case rel =>
        exact ⟨i + 1, so5, cap5, by rw [hL3.out], by go_num, by omega, by rw [hL3.out, ← hT.out]; exact ho5'.out, ((hf'.out.then hf4'.out).alloc _).out (grown_far hg5'.out) (fun k hk e => by have := (C1.out.lt k e).1; omega)⟩
      case measure => simp [intOf]; omega
    · have e1 : decide ((i : Int) < (m : Int)) = false := by rw [decide_eq_false_iff_not]; omega
      have hT := Lib.hid (show (c.nums.take i) = c.nums from List.take_of_length_le (by have := hm'.out; omega))
      have hL3 := Lib.hid (show L = (c.names ++ c.nums.map Lib.itoa).length by rw [List.length_append, List.length_map]; have := hm'.out; omega)
      clear hL2 ho hf
      go_wp2_with fail
      go_ret
      exact ⟨_, rfl, by have h := Src.own ho'.out; rw [hT.out] at h; unfold TxS; rw [← hL3.out]; exact h, hF.out.then hf'.out⟩
end
end Go.Proofs.YtjmgheogpglpnaaDoor
