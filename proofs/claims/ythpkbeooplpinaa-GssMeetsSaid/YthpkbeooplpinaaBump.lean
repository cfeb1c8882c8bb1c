/-
  Bump: the look-up behind mapEntry.
-/
import Derived.Test.YthpkbeooplpinaaPush
namespace Go.Proofs.Ythpkbeooplpinaa
open Go.RowKit
open Go.Maps (Keyed)
set_option linter.unusedVariables false
set_option linter.unusedSimpArgs false
theorem modify_id {α : Type} (xs : Array α) (j : Nat) (f : α → α) (h : ∀ e, xs[j]? = some e → f e = e) : xs.modify j f = xs := by
  apply Array.ext_getElem?
  intro i
  rw [Array.getElem?_modify]
  split
  · rename_i e
    subst e
    cases hx : xs[j]? with
    | none => rfl
    | some y => simp [h y hx]
  · rfl
/-- Behind mapEntry the look-up answers as before. -/
theorem look_behind {w w1 : World} {k b n t : Nat} {c : Value → Option Int} (h : Tally w k b n c) (KL : WideMaps.KeyLaw Try.prog k) (ht : Try.prog.underlying t = some (.map k 3)) {v : Value} {l : Lit} (hk : keyOf Try.prog k v = some l) {r : Value}
    (hrun : (Instr.mapEntry t (.map (some b)) v).run Try.prog w = .ok r w1) : (Instr.lookup t (.map (some b)) v false).run Try.prog w1 = .ok (.int .i64 ((c v).getD 0)) w1 := by
  have hlook := h.look (Keyed.of_law KL) ht hk
  obtain ⟨D, ⟨es, clock, hb, F, _⟩, _⟩ := h
  rcases KL.find w hk es.toList F.keys with ⟨h1, h2⟩ | ⟨j, e0, h1, h2, h3⟩
  · have e1 : w1 = ChangeMaps.setBlock w b (.map (es.push ⟨v, .int .i64 0, clock⟩) (clock + 1)) := by
      simp [Instr.mapEntry, run_underlying ht, MapKept.run_getObj_map hb, KL.check w false hk, h1, zero_int, MapKept.run_setObj_map _ hb, Result.andThen] at hrun
      exact hrun.2.symm
    have e2 : (Instr.lookup t (.map (some b)) v false).run Try.prog w = .ok (.int .i64 0) w := by
      simp [Instr.lookup, run_underlying ht, MapKept.run_getObj_map hb, KL.check w _ hk, h1, zero_int, Result.andThen]
    rw [e2] at hlook
    have e3 : (c v).getD 0 = 0 := by simp at hlook; exact hlook.symm
    have hb1 : w1.heap[b]? = some (.map (es.push ⟨v, .int .i64 0, clock⟩) (clock + 1)) := by rw [e1]; exact ChangeMaps.heap_setBlock_same hb _
    rw [e3]
    rcases KL.find w1 hk (es.push ⟨v, .int .i64 0, clock⟩).toList (fun x hx => by
      simp at hx
      rcases hx with hx | rfl
      · exact F.keys x (by simpa using hx)
      · exact ⟨l, hk⟩) with ⟨g1, g2⟩ | ⟨j, e0, g1, g2, g3⟩
    · exact absurd rfl (g2 ⟨v, .int .i64 0, clock⟩ (by simp))
    · have hm : e0 ∈ (es.push ⟨v, .int .i64 0, clock⟩).toList := List.mem_of_getElem? g2
      simp at hm
      have hv : e0.val = .int .i64 0 := by
        rcases hm with hm | rfl
        · exact absurd g3 (h2 e0 (by simpa using hm))
        · rfl
      rw [Array.toList_push] at g1
      simp [Instr.lookup, run_underlying ht, MapKept.run_getObj_map hb1, KL.check w1 _ hk, g1, hv, zero_int, Result.andThen]
  · have hj : es[j]? = some e0 := by simpa using h2
    have hid : es.modify j (fun e => { e with key := v }) = es := modify_id _ _ _ fun e he => by rw [hj] at he; cases he; rw [← h3]
    have e1 : w1 = ChangeMaps.setBlock w b (.map es clock) := by
      simp [Instr.mapEntry, run_underlying ht, MapKept.run_getObj_map hb, KL.check w false hk, h1, hj, h3, KL.stays w hk, hid, MapKept.run_setObj_map _ hb, Result.andThen] at hrun
      exact hrun.2.symm
    have e2 : (Instr.lookup t (.map (some b)) v false).run Try.prog w = .ok e0.val w := by
      simp [Instr.lookup, run_underlying ht, MapKept.run_getObj_map hb, KL.check w _ hk, h1, zero_int, Result.andThen]
    rw [e2] at hlook
    have e3 : e0.val = .int .i64 ((c v).getD 0) := by simp at hlook; exact hlook
    have hb1 : w1.heap[b]? = some (.map es clock) := by rw [e1]; exact ChangeMaps.heap_setBlock_same hb _
    rw [← e3]
    rcases KL.find w1 hk es.toList F.keys with ⟨g1, g2⟩ | ⟨j', e0', g1, g2, g3⟩
    · exact absurd h3 (g2 e0 (List.mem_of_getElem? h2))
    · have hu := KL.find w1 hk es.toList F.keys
      have hj2 : e0' = e0 := by
        have hn : es.toList.Pairwise (fun x y => x.key ≠ y.key) := ((MapKept.stamped_iff es clock).1 F.stamped).2.2
        have hn' := List.pairwise_iff_getElem.1 hn
        obtain ⟨p1, p2⟩ := List.getElem?_eq_some_iff.1 g2
        obtain ⟨q1, q2⟩ := List.getElem?_eq_some_iff.1 h2
        rcases Nat.lt_trichotomy j j' with hlt | heq | hgt
        · exact absurd (by rw [q2, p2, h3, g3]) (hn' j j' q1 p1 hlt)
        · subst heq; rw [← p2, ← q2]
        · exact absurd (by rw [q2, p2, h3, g3]) (hn' j' j p1 q1 hgt)
      subst hj2
      simp [Instr.lookup, run_underlying ht, MapKept.run_getObj_map hb1, KL.check w1 _ hk, g1, zero_int, Result.andThen]
end Go.Proofs.Ythpkbeooplpinaa
