/-
  Facts and packs in memory; numbers compared.
-/
import Derived.Test.YteoglnbmmgoibaaGreatDoorSrc
import Derived.Test.YteoglnbmmgoibaaGreatDoorQuietFar
import Derived.Deep.RegionHeld3
import Derived.Deep.Draws
import Derived.WalkSpells
namespace Go.Proofs.YteoglnbmmgoibaaGreatDoor
open Go.RowKit
set_option linter.unusedVariables false
set_option linter.unusedSimpArgs false
/-- A fact: nonterminal, from, to. -/
abbrev Fc := Int × Int × Int
/-- A pack: spot, production, mid, left, right. -/
abbrev Pk := Int × Int × Int × Int × Int
def fcell (x : Fc) : List Value := [.int .i64 x.1, .int .i64 x.2.1, .int .i64 x.2.2]
def pcell (x : Pk) : List Value := [.int .i64 x.1, .int .i64 x.2.1, .int .i64 x.2.2.1, .int .i64 x.2.2.2.1, .int .i64 x.2.2.2.2]
def fcells (l : List Fc) : List Value := l.flatMap fcell
def pcells (l : List Pk) : List Value := l.flatMap pcell
def Facts (w : World) (v : Value) (l : List Fc) : Prop := Src w 3 v l.length (fcells l)
def Packs (w : World) (v : Value) (l : List Pk) : Prop := Src w 5 v l.length (pcells l)
theorem Facts.move {w w' : World} {v : Value} {l : List Fc} (h : Facts w v l) (hf : Far (fun _ => False) w w') : Facts w' v l := Src.move h hf
theorem Packs.move {w w' : World} {v : Value} {l : List Pk} (h : Packs w v l) (hf : Far (fun _ => False) w w') : Packs w' v l := Src.move h hf
theorem fcells_len (l : List Fc) : (fcells l).length = l.length * 3 := flat_len fcell 3 (fun _ => rfl) l
theorem pcells_len (l : List Pk) : (pcells l).length = l.length * 5 := flat_len pcell 5 (fun _ => rfl) l
theorem fcells_one (l : List Fc) : ∀ u ∈ fcells l, u.oneCell' = true := by
  intro u hu
  simp only [fcells, List.mem_flatMap] at hu
  obtain ⟨s, _, hs⟩ := hu
  simp [fcell] at hs
  rcases hs with rfl | rfl | rfl <;> rfl
theorem pcells_one (l : List Pk) : ∀ u ∈ pcells l, u.oneCell' = true := by
  intro u hu
  simp only [pcells, List.mem_flatMap] at hu
  obtain ⟨s, _, hs⟩ := hu
  simp [pcell] at hs
  rcases hs with rfl | rfl | rfl | rfl | rfl <;> rfl
theorem Facts.fact {w : World} {v : Value} {l : List Fc} (h : Facts w v l) {k : Nat} {x : Fc} (hk : l[k]? = some x) : ∃ b off c, v = .slice (some ⟨b, off, none⟩) l.length c ∧ b < w.heap.size ∧ w.cell? ⟨b, off + k * 3, none⟩ = some (.int .i64 x.1) ∧ w.cell? ⟨b, off + k * 3 + 1, none⟩ = some (.int .i64 x.2.1) ∧ w.cell? ⟨b, off + k * 3 + 2, none⟩ = some (.int .i64 x.2.2) := by
  have hl := (List.getElem?_eq_some_iff.1 hk).1
  obtain ⟨b, off, c, e, hb, hc⟩ := Src.at h (by rw [fcells_len]; omega)
  exact ⟨b, off, c, e, hb, hc _ _ (flat_get fcell 3 (fun _ => rfl) l k 0 x hk (by omega)), hc _ _ (flat_get fcell 3 (fun _ => rfl) l k 1 x hk (by omega)), hc _ _ (flat_get fcell 3 (fun _ => rfl) l k 2 x hk (by omega))⟩
theorem Packs.pack {w : World} {v : Value} {l : List Pk} (h : Packs w v l) {k : Nat} {x : Pk} (hk : l[k]? = some x) : ∃ b off c, v = .slice (some ⟨b, off, none⟩) l.length c ∧ b < w.heap.size ∧ w.cell? ⟨b, off + k * 5, none⟩ = some (.int .i64 x.1) ∧ w.cell? ⟨b, off + k * 5 + 1, none⟩ = some (.int .i64 x.2.1) ∧ w.cell? ⟨b, off + k * 5 + 2, none⟩ = some (.int .i64 x.2.2.1) ∧ w.cell? ⟨b, off + k * 5 + 3, none⟩ = some (.int .i64 x.2.2.2.1) ∧ w.cell? ⟨b, off + k * 5 + 4, none⟩ = some (.int .i64 x.2.2.2.2) := by
  have hl := (List.getElem?_eq_some_iff.1 hk).1
  obtain ⟨b, off, c, e, hb, hc⟩ := Src.at h (by rw [pcells_len]; omega)
  exact ⟨b, off, c, e, hb, hc _ _ (flat_get pcell 5 (fun _ => rfl) l k 0 x hk (by omega)), hc _ _ (flat_get pcell 5 (fun _ => rfl) l k 1 x hk (by omega)), hc _ _ (flat_get pcell 5 (fun _ => rfl) l k 2 x hk (by omega)), hc _ _ (flat_get pcell 5 (fun _ => rfl) l k 3 x hk (by omega)), hc _ _ (flat_get pcell 5 (fun _ => rfl) l k 4 x hk (by omega))⟩
theorem drew_far (w : World) : Far (fun _ => False) w w.drew := (Far.refl _ w).drew
theorem alloc_far0 (w : World) (o : Obj) : Far (fun _ => False) w (w.alloc o) := (Far.refl _ w).alloc o
theorem info_fact : (Tryz.prog.info? 33).map (fun i => (i.zero.map (·.cells.size), i.size, i.bytes)) = some (some 3, 3, 24) := by kernel_rfl
theorem info_pack : (Tryz.prog.info? 42).map (fun i => (i.zero.map (·.cells.size), i.size, i.bytes)) = some (some 5, 5, 40) := by kernel_rfl
theorem info3 {P : Program} {t : TypeId} {n a b : Nat} (h : (P.info? t).map (fun i => (i.zero.map (·.cells.size), i.size, i.bytes)) = some (some n, a, b)) : ∃ i z, P.info? t = some i ∧ i.zero = some z ∧ i.size = a ∧ i.bytes = b ∧ z.cells.size = n := by
  cases hi : P.info? t with
  | none => rw [hi] at h; cases h
  | some i =>
    rw [hi] at h
    simp only [Option.map_some, Option.some.injEq, Prod.mk.injEq] at h
    obtain ⟨h1, h2, h3⟩ := h
    cases hz : i.zero with
    | none => rw [hz] at h1; cases h1
    | some z =>
      rw [hz] at h1
      exact ⟨i, z, rfl, hz, h2, h3, by simpa using h1⟩
def cmpI (a b : Int) : Int := if a < b then -1 else if b < a then 1 else 0
theorem cmpI_rng (a b : Int) : -1 ≤ cmpI a b ∧ cmpI a b ≤ 1 := by unfold cmpI; split <;> (try split) <;> omega
section
set_option maxHeartbeats 1000000
set_option maxRecDepth 100000
theorem nan_any (a : Int) (w : World) : Calls Tryz.prog 34 #[.int .i64 a] w fun e w' => e = .returned (.bool false) ∧ w = w' := by
  go_enter Tryz.func34, Tryz.ntmps34
  go_wp2_with fail
  go_ret
  exact ⟨by simp, rfl⟩
theorem compare_any (a b : Int) (w : World) : Calls Tryz.prog 24 #[.int .i64 a, .int .i64 b] w fun e w' => e = .returned (.int .i64 (cmpI a b)) ∧ w = w' := by
  have h1 : cmpI a b = if a < b then -1 else if b < a then 1 else 0 := rfl
  by_cases hab : a < b
  · have d1 : decide (a < b) = true := decide_eq_true hab
    rw [if_pos hab] at h1
    rw [h1]
    clear h1
    go_enter Tryz.func24, Tryz.ntmps24
    go_wp2_with ((with_reducible refine (nan_any _ _).mono ?_); rintro e w' ⟨rfl, rfl⟩)
    go_ret
    exact ⟨rfl, rfl⟩
  · have d1 : decide (a < b) = false := decide_eq_false hab
    rw [if_neg hab] at h1
    by_cases hba : b < a
    · have d2 : decide (b < a) = true := decide_eq_true hba
      rw [if_pos hba] at h1
      rw [h1]
      clear h1
      go_enter Tryz.func24, Tryz.ntmps24
      go_wp2_with ((with_reducible refine (nan_any _ _).mono ?_); rintro e w' ⟨rfl, rfl⟩)
      go_ret
      exact ⟨rfl, rfl⟩
    · have d2 : decide (b < a) = false := decide_eq_false hba
      rw [if_neg hba] at h1
      rw [h1]
      clear h1
      go_enter Tryz.func24, Tryz.ntmps24
      go_wp2_with ((with_reducible refine (nan_any _ _).mono ?_); rintro e w' ⟨rfl, rfl⟩)
      go_ret
      exact ⟨rfl, rfl⟩
def orO (a b c : Int) : Int := if a ≠ 0 then a else if b ≠ 0 then b else c
theorem or_any (a b c : Int) (g cap : Nat) (w : World) (h0 : w.cell? ⟨g, 0, none⟩ = some (.int .i64 a)) (h1 : w.cell? ⟨g, 1, none⟩ = some (.int .i64 b)) (h2 : w.cell? ⟨g, 2, none⟩ = some (.int .i64 c)) :
    Calls Tryz.prog 23 #[.slice (some ⟨g, 0, none⟩) 3 cap] w fun e w' => e = .returned (.int .i64 (orO a b c)) ∧ w = w' := by
  have ho : orO a b c = if a ≠ 0 then a else if b ≠ 0 then b else c := rfl
  have H0 := Lib.hid h0
  have H1 := Lib.hid h1
  have H2 := Lib.hid h2
  clear h0 h1 h2
  go_enter Tryz.func23, Tryz.ntmps23
  go_wp2_with fail
  go_loop [8] (fun v => ∃ k : Nat, v = .int .i64 k ∧ k ≤ 3 ∧ (0 < k → a = 0) ∧ (1 < k → b = 0) ∧ (2 < k → c = 0)) (fun v => 3 - (intOf v).toNat)
  case atStart => exact ⟨0, rfl, Nat.zero_le _, fun h => absurd h (Nat.lt_irrefl _), fun h => absurd h (by omega), fun h => absurd h (by omega)⟩
  case round =>
    obtain ⟨k, rfl, hk, k0, k1, k2⟩ := hrel
    have hkk : k = 0 ∨ k = 1 ∨ k = 2 ∨ k = 3 := by omega
    rcases hkk with rfl | rfl | rfl | rfl
    · clear k0 k1 k2
      have c0 := H0.out
      by_cases ha : a = 0
      · have hb : (a == 0) = true := by rw [beq_iff_eq]; exact ha
        have ha' := Lib.hid ha
        clear ha ho
        go_wp2_with fail
        go_round
        case rel => exact ⟨1, rfl, by omega, fun _ => ha'.out, fun h => absurd h (by omega), fun h => absurd h (by omega)⟩
        case measure => simp [intOf]
      · have hb : (a == 0) = false := by rw [beq_eq_false_iff_ne]; exact ha
        rw [if_pos ha] at ho
        have ho' := Lib.hid ho
        clear ha ho
        go_wp2_with fail
        go_ret
        exact ⟨by rw [ho'.out]; rfl, rfl⟩
    · have ha := k0 (by omega)
      clear k0 k1 k2
      have c0 := H1.out
      rw [if_neg (by simp [ha])] at ho
      have ha' := Lib.hid ha
      by_cases hb : b = 0
      · have hbb : (b == 0) = true := by rw [beq_iff_eq]; exact hb
        have hb' := Lib.hid hb
        clear ha hb ho
        go_wp2_with fail
        go_round
        case rel => exact ⟨2, rfl, by omega, fun _ => ha'.out, fun _ => hb'.out, fun h => absurd h (by omega)⟩
        case measure => simp [intOf]
      · have hbb : (b == 0) = false := by rw [beq_eq_false_iff_ne]; exact hb
        rw [if_pos hb] at ho
        have ho' := Lib.hid ho
        clear ha hb ho
        go_wp2_with fail
        go_ret
        exact ⟨by rw [ho'.out]; rfl, rfl⟩
    · have ha := k0 (by omega)
      have hb := k1 (by omega)
      clear k0 k1 k2
      have c0 := H2.out
      rw [if_neg (by simp [ha]), if_neg (by simp [hb])] at ho
      have ha' := Lib.hid ha
      have hb' := Lib.hid hb
      by_cases hc : c = 0
      · have hcc : (c == 0) = true := by rw [beq_iff_eq]; exact hc
        have hc' := Lib.hid hc
        clear ha hb hc ho
        go_wp2_with fail
        go_round
        case rel => exact ⟨3, rfl, by omega, fun _ => ha'.out, fun _ => hb'.out, fun _ => hc'.out⟩
        case measure => simp [intOf]
      · have hcc : (c == 0) = false := by rw [beq_eq_false_iff_ne]; exact hc
        have ho' := Lib.hid ho
        clear ha hb hc ho
        go_wp2_with fail
        go_ret
        exact ⟨by rw [ho'.out]; rfl, rfl⟩
    · have ha := k0 (by omega)
      have hb := k1 (by omega)
      have hc := k2 (by omega)
      clear k0 k1 k2
      rw [if_neg (by simp [ha]), if_neg (by simp [hb])] at ho
      have ho' := Lib.hid (ho.trans hc)
      clear ha hb hc ho
      go_wp2_with fail
      go_ret
      exact ⟨by rw [ho'.out]; rfl, rfl⟩
end
end Go.Proofs.YteoglnbmmgoibaaGreatDoor
