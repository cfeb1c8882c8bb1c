/-
  The library's Index in a list of numbers; the program's bodies.
-/
import Derived.Test.YtjkfieilaahejaaGo13
namespace Go.Proofs.Ytjkfieilaahejaa
open Go.RowKit
set_option linter.unusedVariables false
set_option linter.unusedSimpArgs false
def idxI (L : List Nat) (k : Nat) : Int := match L.idxOf? k with
  | none => -1
  | some j => (j : Int)
theorem idx_none {L : List Nat} {k : Nat} (h : ∀ (j : Nat) (x : Nat), j < L.length → L[j]? = some x → x ≠ k) : idxI L k = -1 := by
  have : L.idxOf? k = none := by
    rw [List.idxOf?_eq_none_iff]
    intro m
    obtain ⟨j, hj, e⟩ := List.getElem_of_mem m
    exact h j _ hj (List.getElem?_eq_getElem hj) e
  unfold idxI
  rw [this]
theorem idx_some : ∀ {L : List Nat} {k j : Nat}, L[j]? = some k → (∀ (i : Nat) (x : Nat), i < j → L[i]? = some x → x ≠ k) → L.idxOf? k = some j
  | [], _, _, h, _ => by simp at h
  | a :: L, k, 0, h, _ => by
    simp only [List.getElem?_cons_zero, Option.some.injEq] at h
    rw [List.idxOf?_cons, h]
    simp
  | a :: L, k, j + 1, h, hn => by
    rw [List.getElem?_cons_succ] at h
    have h1 : (a == k) = false := by simpa using hn 0 a (by omega) rfl
    have ih := idx_some (L := L) h fun i x hi hx => hn (i + 1) x (by omega) (by rw [List.getElem?_cons_succ]; exact hx)
    rw [List.idxOf?_cons, h1, ih]
    rfl
section
set_option maxHeartbeats 2000000
set_option maxRecDepth 100000
theorem idxI_any (v : Value) (L : List Nat) (k : Nat) (w : World) (hS : Src w 1 v L.length (iv L)) (hl : L.length ≤ 1099511627776) :
    Calls Try.prog 43 #[v, .int .i64 (k : Int)] w fun e w' => e = .returned (.int .i64 (idxI L k)) ∧ w' = w := by
  obtain ⟨vo, vc, rfl⟩ := Src.form hS
  have hS' := Lib.hid hS
  clear hS
  go_enter Try.func43, Try.ntmps43
  go_wp2_with fail
  go_loopw [8] (fun iv' wr => ∃ i : Nat, iv' = .int .i64 i ∧ i ≤ L.length ∧ (∀ (j : Nat) (x : Nat), j < i → L[j]? = some x → x ≠ k) ∧ wr = w) (fun iv' _ => L.length - (intOf iv').toNat)
  case atStart => exact ⟨0, rfl, Nat.zero_le _, fun j x h => absurd h (Nat.not_lt_zero _), rfl⟩
  case round =>
    obtain ⟨i, rfl, hi, hno, hw⟩ := hrel
    have hno' := Lib.hid hno
    have hw' := Lib.hid hw
    clear hno
    by_cases hlt : i < L.length
    · have e1 : decide ((i : Int) < (L.length : Int)) = true := by rw [decide_eq_true_eq]; omega
      have hii : (i : Int) < (L.length : Int) := by omega
      obtain ⟨x, hx⟩ : ∃ x, L[i]? = some x := ⟨L[i], List.getElem?_eq_getElem hlt⟩
      obtain ⟨b, off, c, he, hbl, hc⟩ := hS'.out.at (by unfold iv; rw [List.length_map]; omega)
      simp only [Value.slice.injEq] at he
      obtain ⟨rfl, _, rfl⟩ := he
      have d0 : wr.cell? ⟨b, off + i, none⟩ = some (.int .i64 (x : Int)) := by rw [hw]; exact hc i _ (by unfold iv; rw [List.getElem?_map, hx]; rfl)
      have hbw : b < wr.heap.size := by rw [hw]; exact hbl
      have hx' := Lib.hid hx
      clear hc hw hx hbl
      by_cases hk : x = k
      · subst hk
        have hr := Lib.hid (show idxI L x = (i : Int) by unfold idxI; rw [idx_some hx'.out hno'.out])
        go_wp2_with fail
        go_ret
        exact ⟨by rw [hr.out]; rfl, hw'.out⟩
      · have q1 : ((k : Int) == (x : Int)) = false := by rw [beq_eq_false_iff_ne]; omega
        have q2 : ¬ ((k : Int) = (x : Int)) := by omega
        have hn2 := Lib.hid (show ∀ (j : Nat) (y : Nat), j < i + 1 → L[j]? = some y → y ≠ k from fun j y hj hy => by
          by_cases e : j = i
          · subst e
            rw [hx'.out] at hy
            cases hy
            exact hk
          · exact hno'.out j y (by omega) hy)
        clear hk
        go_wp2_with fail
        go_roundw
        case rel => exact ⟨i + 1, by go_num, by omega, hn2.out, hw'.out⟩
        case measure => simp [intOf]; omega
    · have e1 : decide ((i : Int) < (L.length : Int)) = false := by rw [decide_eq_false_iff_not]; omega
      have hr := Lib.hid (show idxI L k = -1 from idx_none fun j x hj hx => hno'.out j x (by omega) hx)
      clear hw
      go_wp2_with fail
      go_ret
      exact ⟨by rw [hr.out]; rfl, hw'.out⟩
theorem bodies_any (vo po : Option Addr) (n vc m pc : Nat) (w : World) : Calls Try.prog 22 #[.slice vo n vc, .slice po m pc] w fun e w' => e = .returned (.func (.func 42) #[] #[.pointer (some ⟨w.heap.size + 1, 0, none⟩), .pointer (some ⟨w.heap.size, 0, none⟩)]) ∧ w' = (w.alloc (.cells #[.slice vo n vc] 42)).alloc (.cells #[.slice po m pc] 33) := by
  go_enter Try.func22, Try.ntmps22
  go_wp2_with fail
  go_ret
  exact ⟨by simp, rfl⟩
end
end Go.Proofs.Ytjkfieilaahejaa
