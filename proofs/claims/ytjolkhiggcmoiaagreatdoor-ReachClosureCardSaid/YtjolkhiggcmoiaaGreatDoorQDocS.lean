/-
  The document's matrices: Wrong, Set, Turn.
-/
import Derived.Test.YtjolkhiggcmoiaaGreatDoorQJoinD
import Derived.Test.YtjolkhiggcmoiaaGreatDoorQAid
import Derived.Deep.RegionHeld3
import Derived.Deep.AppendLies
import Derived.StillTailTactics
import Derived.Deep.QuietTactic
import Derived.BigQuiet
namespace Go.Proofs.YtjolkhiggcmoiaaGreatDoor
open Go.RowKit Go.Shelf
set_option linter.unusedVariables false
set_option linter.unusedSimpArgs false
def inS (s : Nat) (i : Int) : Bool := decide (0 ≤ i) && decide (i < (s : Int))
def wrE (s : Nat) (i j : Int) : Nat := if s = 0 then 1 else if (inS s i && inS s j) = true then 0 else 2
theorem wrE_ok {s : Nat} {i j : Int} (h : wrE s i j = 0) : s ≠ 0 ∧ (0 ≤ i ∧ i < (s : Int)) ∧ 0 ≤ j ∧ j < (s : Int) := by
  unfold wrE at h
  split at h
  · cases h
  · split at h
    · rename_i h0 h1
      unfold inS at h1
      simp only [Bool.and_eq_true, decide_eq_true_eq] at h1
      exact ⟨h0, h1.1, h1.2⟩
    · cases h
def turnL (L : List (Nat × Nat)) : List (Nat × Nat) := L.map fun x => (x.2, x.1)
theorem turnL_len (L : List (Nat × Nat)) : (turnL L).length = L.length := by simp [turnL]
theorem turnL_step {L : List (Nat × Nat)} {k a b : Nat} (h : L[k]? = some (a, b)) : turnL (L.take (k + 1)) = turnL (L.take k) ++ [(b, a)] := by
  unfold turnL
  rw [List.take_add_one, h, Option.toList_some, List.map_append]
  rfl
theorem turnL_mem {L : List (Nat × Nat)} {x : Nat × Nat} : x ∈ turnL L ↔ (x.2, x.1) ∈ L := by
  unfold turnL
  rw [List.mem_map]
  constructor
  · rintro ⟨y, hy, rfl⟩; exact hy
  · intro h; exact ⟨_, h, rfl⟩
section
set_option maxHeartbeats 8000000
set_option maxRecDepth 100000
theorem rwrong02_any (w : World) (s : Nat) (ao : Option Addr) (n cap : Nat) (i j : Int) : Calls Tryz.prog 33 #[.agg #[.int .i64 (s : Nat), .slice ao n cap], .int .i64 i, .int .i64 j] w fun e w' => e = .returned (.int .i64 (wrE s i j : Nat)) ∧ Far (fun _ => False) w w' := by
  obtain ⟨h3, hh3⟩ : ∃ h, h = w.heap.size := ⟨_, rfl⟩
  obtain ⟨W0, hW0⟩ : ∃ V, V = w.alloc (.cells #[.int .i64 (s : Nat), .slice ao n cap] 27) := ⟨_, rfl⟩
  have hF0 : Far (fun _ => False) w W0 := hW0 ▸ (Far.refl _ w).alloc _
  have hB3 : Bk W0 h3 27 #[.int .i64 (s : Nat), .slice ao n cap] := hW0 ▸ Bk.new hh3
  have c0 : W0.cell? ⟨h3, 0, none⟩ = some (.int .i64 (s : Nat)) := hB3.cell 0
  have c1 : W0.cell? ⟨h3, 1, none⟩ = some (.slice ao n cap) := hB3.cell 1
  have IN1 := rin_any s (.slice ao n cap) i W0
  have IN2 := Lib.hid (fun V => rin_any s (.slice ao n cap) j V)
  have hF0' := Lib.hid hF0
  have hB3' := Lib.hid hB3
  have hh3' := Lib.hid hh3
  have hW0' := Lib.hid hW0
  change Calls _ _ _ _ fun e w' => e = .returned (.bool (inS s i)) ∧ _ at IN1
  replace IN2 := Lib.hid (show ∀ V, Calls Tryz.prog 66 #[.agg #[.int .i64 (s : Nat), .slice ao n cap], .int .i64 j] V fun e w' => e = .returned (.bool (inS s j)) ∧ Far (fun _ => False) V w' from IN2.out)
  clear hF0 hB3 hh3 hW0
  by_cases h0 : s = 0
  · have e : wrE s i j = 1 := by unfold wrE; rw [if_pos h0]
    rw [e]
    have a0 : ((s : Int) == 0) = true := by simp; omega
    clear h0 e
    go_enter Tryz.func33, Tryz.ntmps33
    go_upto_region 1 with fail
    rw [← hh3'.out, ← hW0'.out]
    go_wp2_with fail
    go_ret
    exact ⟨rfl, hF0'.out⟩
  · have a0 := nat_beq0 h0
    obtain ⟨p, hp⟩ : ∃ p, inS s i = p := ⟨_, rfl⟩
    obtain ⟨q, hq⟩ : ∃ q, inS s j = q := ⟨_, rfl⟩
    have e : wrE s i j = if (p && q) = true then 0 else 2 := by unfold wrE; rw [if_neg h0, hp, hq]
    rw [e]
    rw [hp] at IN1
    rw [hq] at IN2
    clear h0 e hp hq
    cases p with
    | false =>
      rw [Bool.false_and, if_neg Bool.false_ne_true]
      go_enter Tryz.func33, Tryz.ntmps33
      go_upto_region 1 with fail
      rw [← hh3'.out, ← hW0'.out]
      go_wp2_with fail
      refine IN1.mono ?_
      rintro e w1 ⟨rfl, hf1⟩
      have hf1' := Lib.hid hf1
      clear IN1 hf1
      go_wp2_with fail
      go_ret
      exact ⟨rfl, hF0'.out.then hf1'.out⟩
    | true =>
      rw [Bool.true_and]
      cases q with
      | false =>
        rw [if_neg Bool.false_ne_true]
        go_enter Tryz.func33, Tryz.ntmps33
        go_upto_region 1 with fail
        rw [← hh3'.out, ← hW0'.out]
        go_wp2_with fail
        refine IN1.mono ?_
        rintro e w1 ⟨rfl, hf1⟩
        have IN3 := IN2.out w1
        have hB1 := hB3'.out.far' hf1 id
        have c0 : w1.cell? ⟨h3, 0, none⟩ = some (.int .i64 (s : Nat)) := hB1.cell 0
        have c1 : w1.cell? ⟨h3, 1, none⟩ = some (.slice ao n cap) := hB1.cell 1
        have hf1' := Lib.hid hf1
        clear IN1 hf1 hB1
        go_wp2_with fail
        refine IN3.mono ?_
        rintro e w2 ⟨rfl, hf2⟩
        have hf2' := Lib.hid hf2
        clear IN3 hf2
        go_wp2_with fail
        go_ret
        exact ⟨rfl, hF0'.out.then (hf1'.out.then hf2'.out)⟩
      | true =>
        rw [if_pos rfl]
        go_enter Tryz.func33, Tryz.ntmps33
        go_upto_region 1 with fail
        rw [← hh3'.out, ← hW0'.out]
        go_wp2_with fail
        refine IN1.mono ?_
        rintro e w1 ⟨rfl, hf1⟩
        have IN3 := IN2.out w1
        have hB1 := hB3'.out.far' hf1 id
        have c0 : w1.cell? ⟨h3, 0, none⟩ = some (.int .i64 (s : Nat)) := hB1.cell 0
        have c1 : w1.cell? ⟨h3, 1, none⟩ = some (.slice ao n cap) := hB1.cell 1
        have hf1' := Lib.hid hf1
        clear IN1 hf1 hB1
        go_wp2_with fail
        refine IN3.mono ?_
        rintro e w2 ⟨rfl, hf2⟩
        have hf2' := Lib.hid hf2
        clear IN3 hf2
        go_wp2_with fail
        go_ret
        exact ⟨rfl, hF0'.out.then (hf1'.out.then hf2'.out)⟩
end
end Go.Proofs.YtjolkhiggcmoiaaGreatDoor
