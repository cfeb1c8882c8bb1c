/-
  A body's length: the program's, the document's.
-/
import Derived.Test.YteojbnkjphghkaaDoorRows13
namespace Go.Proofs.YteojbnkjphghkaaDoor
open Go.RowKit
set_option linter.unusedVariables false
set_option linter.unusedSimpArgs false
def SymIn (S : Nat) (x : Sy) : Prop := x.1 = false → 0 ≤ x.2 ∧ x.2 < S
section
set_option maxHeartbeats 4000000
set_option maxRecDepth 100000
theorem lengthOf_any (S gR : Nat) (s : Nat → Int) (v : Value) (l : List Sy) (w : World) (hB : Body w v l) (hl : l.length ≤ maxLen) (hR : IRow w gR S s) (hS : ∀ x ∈ l, SymIn S x) (hg : RngS s) (hSm : S ≤ 1024) :
    Calls Tryd.prog 38 #[v, .slice (some ⟨gR, 0, none⟩) S S] w fun e w' => e = .returned (.int .i64 (long s l 0)) ∧ Far (fun _ => False) w w' := by
  unfold maxLen at hl
  obtain ⟨ao, ac, rfl⟩ := Src.form hB
  have hB' := Lib.hid hB
  have hR' := Lib.hid hR
  have hS' := Lib.hid hS
  have hg' := Lib.hid hg
  clear hB hR hS hg
  go_enter Tryd.func38, Tryd.ntmps38
  go_wp2_with fail
  go_step3
  go_wp2_with fail
  go_step3
  go_wp2_with fail
  go_loopw [5, 10] (fun nv iv wr => ∃ (i : Nat) (n : Int), nv = .int .i64 n ∧ iv = .int .i64 i ∧ i ≤ l.length ∧ (0 ≤ n ∧ n ≤ 65) ∧ Hid (long s l 0 = long s (l.drop i) n) ∧ Far (fun _ => False) w wr) (fun _ iv _ => l.length - (intOf iv).toNat)
  case atStart => exact ⟨0, 0, rfl, rfl, Nat.zero_le _, by decide, Lib.hid rfl, Far.refl _ _⟩
  case round =>
    obtain ⟨i, n, rfl, rfl, hi, hn, heq, hfw⟩ := hrel
    by_cases hlt : i < l.length
    · have e1 : decide ((i : Int) < (l.length : Int)) = true := by rw [decide_eq_true_eq]; omega
      have hii : (i : Int) < (l.length : Int) := by omega
      obtain ⟨x, hx⟩ : ∃ x, l[i]? = some x := ⟨l[i], List.getElem?_eq_getElem hlt⟩
      obtain ⟨b, off, c, he, hbl, c0, c1⟩ := (hB'.out.move hfw).sym hx
      simp only [Value.slice.injEq] at he
      obtain ⟨rfl, _, rfl⟩ := he
      have hld := long_drop (s := s) hx n
      have hsx := hS'.out x (List.mem_of_getElem? hx)
      have hRw := Lib.hid (show IRow wr gR S s from Bk.far' hR'.out hfw id)
      have hfw' := Lib.hid hfw
      obtain ⟨xb, xk⟩ := x
      dsimp only at c0 c1 hld
      clear hx hfw hbl
      obtain ⟨hn0, hn1⟩ := hn
      cases xb with
      | true =>
        have hc := cap_rng (x := n + 1) (by omega)
        have hcd : cap (n + 1) = if 65 < n + 1 then 65 else n + 1 := rfl
        have heq' : Hid (long s l 0 = long s (l.drop (i + 1)) (cap (n + 1))) := Lib.hid (by rw [heq.out, hld, if_pos rfl])
        clear hld heq hsx
        go_wp2_with fail
        go_roundw
        case rel => exact ⟨i + 1, cap (n + 1), rfl, by go_num, by omega, ⟨hc.1, hc.2.1⟩, heq', hfw'.out.alloc _⟩
        case measure => simp [intOf]; omega
      | false =>
        obtain ⟨hk0, hkS⟩ := hsx rfl
        obtain ⟨k, rfl⟩ : ∃ k : Nat, xk = (k : Int) := ⟨xk.toNat, by omega⟩
        have hkS' : k < S := by omega
        have r0 : wr.cell? ⟨gR, k, none⟩ = some (.int .i64 (s k)) := IRow.at hRw.out hkS'
        have hgl : gR < wr.heap.size := Bk.lt hRw.out
        have hrs := hg'.out k
        rw [if_neg (by decide), Int.toNat_natCast] at hld
        generalize hsk : s k = sk at *
        have hsk' := Lib.hid hsk
        clear hsk hsx
        by_cases hneg : sk < 0
        · have d0 : decide (sk < 0) = true := decide_eq_true hneg
          have heq' : Hid (long s l 0 = -1) := Lib.hid (by rw [heq.out, hld, if_pos hneg])
          clear hld heq hneg
          go_wp2_with fail
          exact bodyPost_ret (v := .int .i64 (-1)) (by simp [results, Tryd.f38, go_sem]) rfl ⟨by rw [heq'.out], hfw'.out.alloc _⟩
        · have d0 : decide (sk < 0) = false := decide_eq_false hneg
          have hc := cap_rng (x := n + sk) (by omega)
          have hcd : cap (n + sk) = if 65 < n + sk then 65 else n + sk := rfl
          have heq' : Hid (long s l 0 = long s (l.drop (i + 1)) (cap (n + sk))) := Lib.hid (by rw [heq.out, hld, if_neg hneg])
          clear hld heq
          go_wp2_with fail
          go_roundw
          case rel => exact ⟨i + 1, cap (n + sk), rfl, by go_num, by omega, ⟨hc.1, hc.2.1⟩, heq', hfw'.out.alloc _⟩
          case measure => simp [intOf]; omega
    · have e1 : decide ((i : Int) < (l.length : Int)) = false := by rw [decide_eq_false_iff_not]; omega
      have hin : i = l.length := by omega
      have heq' := Lib.hid (show long s l 0 = n by rw [heq.out, hin, long_end])
      have hfw' := Lib.hid hfw
      clear hfw heq hn
      go_wp2_with fail
      first | (rw [Exit.noGoto_ret]; exact bodyPost_ret (v := .int .i64 n) (by simp [results, Tryd.f38, go_sem]) rfl ⟨by rw [heq'.out], hfw'.out⟩) | (go_ret; exact ⟨by rw [heq'.out]; rfl, hfw'.out⟩)
end
end Go.Proofs.YteojbnkjphghkaaDoor
