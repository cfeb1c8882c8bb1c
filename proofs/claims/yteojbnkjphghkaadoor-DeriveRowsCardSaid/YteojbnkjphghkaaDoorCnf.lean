/-
  Productions in memory; bodies copied.
-/
import Derived.Test.YteojbnkjphghkaaDoorSrc
import Derived.Test.YteojbnkjphghkaaDoorQuietFar
import Derived.Deep.RegionHeld3
import Derived.WalkSpells
namespace Go.Proofs.YteojbnkjphghkaaDoor
open Go.RowKit
set_option linter.unusedVariables false
set_option linter.unusedSimpArgs false
/-- A symbol: label?, number. -/
abbrev Sy := Bool × Int
/-- A production: head, the value of the body's slice, body. -/
abbrev Tr := Int × Value × List Sy
def scell (s : Sy) : List Value := [.bool s.1, .int .i64 s.2]
def scells (l : List Sy) : List Value := l.flatMap scell
def tcell (t : Tr) : List Value := [.int .i64 t.1, t.2.1]
def tcells (T : List Tr) : List Value := T.flatMap tcell
/-- What counts of a production. -/
def pl (t : Tr) : Int × List Sy := (t.1, t.2.2)
def Body (w : World) (v : Value) (l : List Sy) : Prop := Src w 2 v l.length (scells l)
def Prods (w : World) (v : Value) (T : List Tr) : Prop := Src w 2 v T.length (tcells T) ∧ ∀ t ∈ T, Body w t.2.1 t.2.2
theorem Body.move {w w' : World} {v : Value} {l : List Sy} (h : Body w v l) (hf : Far (fun _ => False) w w') : Body w' v l := Src.move h hf
theorem Prods.move {w w' : World} {v : Value} {T : List Tr} (h : Prods w v T) (hf : Far (fun _ => False) w w') : Prods w' v T := ⟨Src.move h.1 hf, fun t ht => (h.2 t ht).move hf⟩
theorem scells_get {l : List Sy} {k : Nat} {s : Sy} (h : l[k]? = some s) : (scells l)[k * 2]? = some (.bool s.1) ∧ (scells l)[k * 2 + 1]? = some (.int .i64 s.2) :=
  ⟨flat_get scell 2 (fun _ => rfl) l k 0 s h (by omega), flat_get scell 2 (fun _ => rfl) l k 1 s h (by omega)⟩
theorem tcells_get {T : List Tr} {k : Nat} {t : Tr} (h : T[k]? = some t) : (tcells T)[k * 2]? = some (.int .i64 t.1) ∧ (tcells T)[k * 2 + 1]? = some t.2.1 :=
  ⟨flat_get tcell 2 (fun _ => rfl) T k 0 t h (by omega), flat_get tcell 2 (fun _ => rfl) T k 1 t h (by omega)⟩
theorem scells_len (l : List Sy) : (scells l).length = l.length * 2 := flat_len scell 2 (fun _ => rfl) l
theorem tcells_len (T : List Tr) : (tcells T).length = T.length * 2 := flat_len tcell 2 (fun _ => rfl) T
theorem tcells_app (T : List Tr) (t : Tr) : tcells (T ++ [t]) = tcells T ++ [.int .i64 t.1, t.2.1] := by simp [tcells, tcell]
/-- The k-th symbol of a body. -/
theorem Body.sym {w : World} {v : Value} {l : List Sy} (h : Body w v l) {k : Nat} {s : Sy} (hk : l[k]? = some s) : ∃ b off c, v = .slice (some ⟨b, off, none⟩) l.length c ∧ b < w.heap.size ∧ w.cell? ⟨b, off + k * 2, none⟩ = some (.bool s.1) ∧ w.cell? ⟨b, off + k * 2 + 1, none⟩ = some (.int .i64 s.2) := by
  have hl := (List.getElem?_eq_some_iff.1 hk).1
  obtain ⟨b, off, c, e, hb, hc⟩ := Src.at h (by rw [scells_len]; omega)
  obtain ⟨h0, h1⟩ := scells_get hk
  exact ⟨b, off, c, e, hb, hc _ _ h0, hc _ _ h1⟩
theorem Prods.prod {w : World} {v : Value} {T : List Tr} (h : Prods w v T) {k : Nat} {t : Tr} (hk : T[k]? = some t) : ∃ b off c, v = .slice (some ⟨b, off, none⟩) T.length c ∧ b < w.heap.size ∧ w.cell? ⟨b, off + k * 2, none⟩ = some (.int .i64 t.1) ∧ w.cell? ⟨b, off + k * 2 + 1, none⟩ = some t.2.1 ∧ Body w t.2.1 t.2.2 := by
  have hl := (List.getElem?_eq_some_iff.1 hk).1
  obtain ⟨b, off, c, e, hb, hc⟩ := Src.at h.1 (by rw [tcells_len]; omega)
  obtain ⟨h0, h1⟩ := tcells_get hk
  exact ⟨b, off, c, e, hb, hc _ _ h0, hc _ _ h1, h.2 t (List.mem_of_getElem? hk)⟩
theorem alloc_far0 (w : World) (o : Obj) : Far (fun _ => False) w (w.alloc o) := (Far.refl _ w).alloc o
theorem own_ne {w : World} {base sz n : Nat} {e t : TypeId} {v : Value} {xs : List Value} {g : Nat} {cs : Array Value} (h : w.ownsRow base e sz v n xs) (hB : Bk w g t cs) (hne : e ≠ t) : v.ownBlock ≠ some g := by
  intro he
  rcases h.2 with ⟨rfl, _⟩ | ⟨g', cap, cur, rfl, _, hg, _⟩
  · cases he
  · have : g' = g := Option.some.inj he
    subst this
    rw [show w.heap[g']? = _ from hB] at hg
    cases hg
    exact hne rfl
theorem Bk.grown {w w' : World} {g : Nat} {t : TypeId} {cs : Array Value} {row : Option Nat} (h : Bk w g t cs) (hg : w.grownBy w' row) (hne : row ≠ some g) : Bk w' g t cs := (hg.block g h.lt fun e => hne e.symm).trans h
theorem scells_one (l : List Sy) : ∀ u ∈ scells l, u.oneCell' = true := by
  intro u hu
  simp only [scells, List.mem_flatMap] at hu
  obtain ⟨s, _, hs⟩ := hu
  simp [scell] at hs
  rcases hs with rfl | rfl <;> rfl
theorem Body.one {w : World} {v : Value} {l : List Sy} (h : Body w v l) : v.oneCell' = true := by
  obtain ⟨ao, c, rfl⟩ := Src.form h
  rfl
theorem info_sym : (Tryd.prog.info? 50).map (fun i => (i.zero.map (·.cells.size), i.size, i.bytes)) = some (some 2, 2, 16) := by kernel_rfl
theorem info_prod : (Tryd.prog.info? 48).map (fun i => (i.zero.map (·.cells.size), i.size, i.bytes)) = some (some 2, 2, 32) := by kernel_rfl
theorem info3 {P : Program} {t : TypeId} {n a b : Nat} (h : (P.info? t).map (fun i => (i.zero.map (·.cells.size), i.size, i.bytes)) = some (some n, a, b)) : ∃ i z, P.info? t = some i ∧ i.zero = some z ∧ i.size = a ∧ i.bytes = b ∧ z.cells.size = n := by
  cases hi : P.info? t with
  | none => rw [hi] at h; cases h
  | some i =>
    rw [hi] at h
    simp only [Option.map_some, Option.some.injEq, Prod.mk.injEq] at h
    obtain ⟨h1, h2, h3⟩ := h
    cases hz : i.zero with
    | none => rw [hz] at h1; cases h1
    | some z =>
      rw [hz] at h1
      exact ⟨i, z, rfl, hz, h2, h3, by simpa using h1⟩
section
set_option maxHeartbeats 2000000
set_option maxRecDepth 100000
theorem below_any (n bound : Int) (w : World) : Calls Tryd.prog 53 #[.int .i64 n, .int .i64 bound] w fun e w' => e = .returned (.bool (decide (0 ≤ n ∧ n < bound))) ∧ w = w' := by
  by_cases h0 : 0 ≤ n
  · have d0 : decide (0 ≤ n) = true := decide_eq_true h0
    have e1 : decide (0 ≤ n ∧ n < bound) = decide (n < bound) := by simp [h0]
    rw [e1]
    clear e1
    go_enter Tryd.func53, Tryd.ntmps53
    go_wp2_with fail
    go_ret
    exact ⟨rfl, rfl⟩
  · have d0 : decide (0 ≤ n) = false := decide_eq_false h0
    have e1 : decide (0 ≤ n ∧ n < bound) = false := by simp [h0]
    rw [e1]
    clear e1
    go_enter Tryd.func53, Tryd.ntmps53
    go_wp2_with fail
    go_ret
    exact ⟨rfl, rfl⟩
end
end Go.Proofs.YteojbnkjphghkaaDoor
