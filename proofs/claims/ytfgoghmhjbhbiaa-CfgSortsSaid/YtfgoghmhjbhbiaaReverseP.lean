/-
  A body of the call's own turned over.
-/
import Derived.Test.YtfgoghmhjbhbiaaCompactW
namespace Go.Proofs.Ytfgoghmhjbhbiaa
open Go.RowKit
set_option linter.unusedVariables false
set_option linter.unusedSimpArgs false
theorem scells_set {R : List Sy} {i : Nat} {t : Sy} (hi : i < R.length) : scells (R.set i t) = ((scells R).set (i * 2) (.bool t.1)).set (i * 2 + 1) (.int .i64 t.2) := by
  induction R generalizing i with
  | nil => simp at hi
  | cons x R ih =>
    cases i with
    | zero => simp [scells, scell]
    | succ i =>
      have := ih (i := i) (by simpa using hi)
      rw [List.set_cons_succ]
      show scell x ++ scells (R.set i t) = ((scell x ++ scells R).set ((i + 1) * 2) _).set ((i + 1) * 2 + 1) _
      rw [this, List.set_append_right _ _ (by simp [scell]; omega), List.set_append_right _ _ (by simp [scell]; omega)]
      simp only [scell, List.length_cons, List.length_nil]
      rw [show (i + 1) * 2 - (0 + 1 + 1) = i * 2 by omega, show (i + 1) * 2 + 1 - (0 + 1 + 1) = i * 2 + 1 by omega]
/-- A row of symbols of the call's own. -/
def SRow (w : World) (B : Nat) (v : Value) (R : List Sy) : Prop := w.ownsRow B 47 2 v R.length (scells R)
theorem SRow.at {w : World} {B g n cap : Nat} {R : List Sy} (h : SRow w B (.slice (some ⟨g, 0, none⟩) n cap) R) {m : Nat} {s : Sy} (hm : R[m]? = some s) : w.cell? ⟨g, m * 2, none⟩ = some (.bool s.1) ∧ w.cell? ⟨g, m * 2 + 1, none⟩ = some (.int .i64 s.2) ∧ w.frozen? ⟨g, m * 2, none⟩ = false ∧ w.frozen? ⟨g, m * 2 + 1, none⟩ = false := by
  have hB : Body w (.slice (some ⟨g, 0, none⟩) n cap) R := Src.own h
  obtain ⟨b, off, c, e, _, c0, c1⟩ := hB.sym hm
  rcases h.2 with ⟨e', _⟩ | ⟨g', cap', cur, e', _, hg, _⟩
  · cases e'
  · cases e'
    cases e
    rw [Nat.zero_add] at c0 c1
    exact ⟨c0, c1, frozen_of_row w g _ cur _ hg, frozen_of_row w g _ cur _ hg⟩
theorem SRow.set {w : World} {B g n cap : Nat} {R : List Sy} (h : SRow w B (.slice (some ⟨g, 0, none⟩) n cap) R) (hn : R.length = n) {i : Nat} (hi : i < n) (t : Sy) : SRow ((w.setCell ⟨g, i * 2, none⟩ (.bool t.1)).setCell ⟨g, i * 2 + 1, none⟩ (.int .i64 t.2)) B (.slice (some ⟨g, 0, none⟩) n cap) (R.set i t) := by
  subst hn
  unfold SRow
  rw [List.length_set, scells_set hi]
  exact ((World.ownsRow.stored h (i * 2) _).1.stored (i * 2 + 1) _).1
/-- So far: the first i and the last i are exchanged. -/
def RevTo (l R : List Sy) (i : Nat) : Prop := R.length = l.length ∧ ∀ m, m < l.length → R[m]? = if m < i ∨ l.length - i ≤ m then l[l.length - 1 - m]? else l[m]?
theorem revTo_end {l R : List Sy} {i : Nat} (h : RevTo l R i) (hi : l.length ≤ 2 * i + 1) : R = l.reverse := by
  apply List.ext_getElem?
  intro m
  by_cases hm : m < l.length
  · rw [h.2 m hm, List.getElem?_reverse hm]
    split
    · rfl
    · rw [show l.length - 1 - m = m by omega]
  · rw [List.getElem?_eq_none (by rw [h.1]; omega), List.getElem?_eq_none (by simp; omega)]
theorem revTo_step {l R : List Sy} {i j : Nat} {a b : Sy} (h : RevTo l R i) (hj : i + j + 1 = l.length) (hij : i < j) (ha : l[i]? = some a) (hb : l[j]? = some b) : RevTo l ((R.set i b).set j a) (i + 1) := by
  refine ⟨by simp [h.1], fun m hm => ?_⟩
  have hR := h.2 m hm
  have hl := h.1
  by_cases hmj : m = j
  · subst hmj
    rw [List.getElem?_set_self (by simp; omega), if_pos (by omega), show l.length - 1 - m = i by omega, ha]
  · rw [List.getElem?_set_ne (fun e => hmj e.symm)]
    by_cases hmi : m = i
    · subst hmi
      rw [List.getElem?_set_self (by omega), if_pos (by omega), show l.length - 1 - m = j by omega, hb]
    · rw [List.getElem?_set_ne (fun e => hmi e.symm), hR]
      by_cases hc : m < i ∨ l.length - i ≤ m
      · rw [if_pos hc, if_pos (by omega)]
      · rw [if_neg hc, if_neg (by omega)]
section
set_option maxHeartbeats 2000000
set_option maxRecDepth 100000
theorem reverse_any (B : Nat) (v : Value) (l : List Sy) (w : World) (hP : SRow w B v l) (hs : l.length ≤ maxLen) :
    Calls Try.prog 31 #[v] w fun e w' => e = .returned (.tuple #[]) ∧ SRow w' B v l.reverse ∧ Far (fun k => v.ownBlock = some k) w w' := by
  unfold maxLen at hs
  rcases hP.2 with ⟨rfl, hn⟩ | ⟨g, cap, cur, rfl, hB, hb, hcap, hmax, _, _⟩
  · have hl : l = [] := List.eq_nil_of_length_eq_zero hn
    subst hl
    have hP' := Lib.hid hP
    clear hP hn
    go_enter Try.func31, Try.ntmps31
    go_wp2_with fail
    go_loop [2, 3] (fun a b => a = .int .i64 0 ∧ b = .int .i64 (-1)) (fun _ _ => 0)
    case atStart => exact ⟨rfl, rfl⟩
    case round =>
      obtain ⟨rfl, rfl⟩ := hrel
      go_wp2_with fail
      go_end0
      exact ⟨rfl, hP'.out, Far.refl _ _⟩
  · have hgl : g < w.heap.size := (Array.getElem?_eq_some_iff.1 hb).1
    obtain ⟨n, hn⟩ : ∃ n, n = l.length := ⟨_, rfl⟩
    rw [← hn] at hP hcap hs ⊢
    have hP' := Lib.hid hP
    have hn' := Lib.hid hn
    clear hP hn hb
    go_enter Try.func31, Try.ntmps31
    go_wp2_with fail
    go_loopw [2, 3] (fun a b wr => ∃ (i : Nat) (R : List Sy), a = .int .i64 i ∧ b = .int .i64 ((n : Int) - 1 - i) ∧ 2 * i ≤ n + 1 ∧ RevTo l R i ∧ SRow wr B (.slice (some ⟨g, 0, none⟩) n cap) R ∧ Far (fun k => k = g) w wr) (fun a _ _ => n - (intOf a).toNat)
    case atStart => exact ⟨0, l, rfl, by simp, by omega, ⟨rfl, fun m hm => by simp; omega⟩, hP'.out, Far.refl _ _⟩
    case round =>
      obtain ⟨i, R, rfl, rfl, hi, hrev, hrow, hfw⟩ := hrel
      by_cases hlt : 2 * i + 1 < n
      · obtain ⟨j, hj⟩ : ∃ j, i + j + 1 = n := ⟨n - 1 - i, by omega⟩
        have hji : (n : Int) - 1 - (i : Int) = (j : Int) := by omega
        rw [hji]
        have e1 : decide ((i : Int) < (j : Int)) = true := by rw [decide_eq_true_eq]; omega
        have e1' : decide (i < j) = true := by rw [decide_eq_true_eq]; omega
        have hin : (i : Int) < (n : Int) := by omega
        have hjn : (j : Int) < (n : Int) := by omega
        have hnl := hn'.out
        obtain ⟨a, ha⟩ : ∃ a, l[i]? = some a := ⟨l[i]'(by omega), List.getElem?_eq_getElem (by omega)⟩
        obtain ⟨b, hb⟩ : ∃ b, l[j]? = some b := ⟨l[j]'(by omega), List.getElem?_eq_getElem (by omega)⟩
        have hRa : R[i]? = some a := by rw [hrev.2 i (by omega), if_neg (by omega)]; exact ha
        have hRb : R[j]? = some b := by rw [hrev.2 j (by omega), if_neg (by omega)]; exact hb
        obtain ⟨a0, a1, az0, az1⟩ := hrow.at hRa
        obtain ⟨b0, b1, bz0, bz1⟩ := hrow.at hRb
        have hRl : R.length = n := by rw [hrev.1, hnl]
        have hne : i * 2 ≠ j * 2 ∧ i * 2 ≠ j * 2 + 1 ∧ i * 2 + 1 ≠ j * 2 ∧ i * 2 + 1 ≠ j * 2 + 1 ∧ j * 2 ≠ i * 2 ∧ j * 2 ≠ i * 2 + 1 ∧ j * 2 + 1 ≠ i * 2 ∧ j * 2 + 1 ≠ i * 2 + 1 := by omega
        have hst := Lib.hid (revTo_step hrev (by omega) (by omega) ha hb)
        obtain ⟨s0, s1⟩ := a
        obtain ⟨t0, t1⟩ := b
        simp only [] at a0 a1 b0 b1
        have hr2 := Lib.hid ((hrow.set hRl (i := i) (by omega) (t0, t1)).set (by rw [List.length_set]; exact hRl) (i := j) (by omega) (s0, s1))
        have hfw' := Lib.hid ((((hfw.set ⟨g, i * 2, none⟩ (.bool t0) fun _ => rfl).set ⟨g, i * 2 + 1, none⟩ (.int .i64 t1) fun _ => rfl).set ⟨g, j * 2, none⟩ (.bool s0) fun _ => rfl).set ⟨g, j * 2 + 1, none⟩ (.int .i64 s1) fun _ => rfl)
        have hjx : (n : Int) - 1 - ((i + 1 : Nat) : Int) = (j : Int) - 1 := by omega
        have hjx' := Lib.hid hjx
        have hjl := Lib.hid hj
        obtain ⟨n1, n2, n3, n4, n5, n6, n7, n8⟩ := hne
        clear hrev hrow hfw hRa hRb ha hb hnl hji hj hjx hRl
        go_wp2_with fail
        go_region
        all_goals
          go_wp2_with fail
          go_roundw
          case rel => exact ⟨i + 1, _, by go_num, by rw [hjx'.out], by omega, hst.out, hr2.out, hfw'.out.drew⟩
          case measure => simp [intOf]; omega
      · have e1 : decide ((i : Int) < (n : Int) - 1 - (i : Int)) = false := by rw [decide_eq_false_iff_not]; omega
        have hend := Lib.hid (revTo_end hrev (by rw [← hn'.out]; omega))
        have hrow' := Lib.hid hrow
        have hfw' := Lib.hid hfw
        clear hrev hrow hfw
        go_wp2_with fail
        go_end0
        exact ⟨rfl, by rw [← hend.out]; exact hrow'.out, hfw'.out.mono fun k _ e => by rw [e]; rfl⟩
end
end Go.Proofs.Ytfgoghmhjbhbiaa
