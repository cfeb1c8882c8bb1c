/-
  Keep: a stack stays where its blocks stay.
-/
import Derived.Test.YthpkbeooplpinaaNds
namespace Go.Proofs.Ythpkbeooplpinaa
open Go.RowKit
open Go.Maps (Keyed)
set_option linter.unusedVariables false
set_option linter.unusedSimpArgs false
theorem row_ne {w : World} {g : Nat} {t : TypeId} {cs : Array Value} (h : Bk w g t cs) {base : Nat} {e : TypeId} {size : Nat} {v : Value} {n : Nat} {xs : List Value} (hr : w.ownsRow base e size v n xs) (hte : t ≠ e) : v.ownBlock ≠ some g := fun e' => by
  rcases hr.2 with ⟨h', _⟩ | ⟨g', c, cur, h', _, hg, _⟩
  · rw [h'] at e'; cases e'
  · rw [h'] at e'
    have : g' = g := Option.some.inj e'
    subst this
    rw [show w.heap[g']? = _ from h] at hg
    cases hg
    exact hte rfl
theorem rows_ne {w : World} {base base' : Nat} {e e' : TypeId} {size size' : Nat} {v v' : Value} {n n' : Nat} {xs xs' : List Value} (hr : w.ownsRow base e size v n xs) (hr' : w.ownsRow base' e' size' v' n' xs') (hte : e ≠ e') : v.ownBlock = none ∨ v.ownBlock ≠ v'.ownBlock := by
  rcases hr.2 with ⟨h, _⟩ | ⟨g, c, cur, h, _, hg, _⟩
  · rw [h]; exact .inl rfl
  · right
    intro e'
    rcases hr'.2 with ⟨h', _⟩ | ⟨g', c', cur', h', _, hg', _⟩
    · rw [h, h'] at e'; cases e'
    · rw [h, h'] at e'
      have : g = g' := Option.some.inj e'
      subst this
      rw [hg] at hg'
      cases hg'
      exact hte rfl
theorem tally_ne {w : World} {k b n : Nat} {c : Value → Option Int} (h : Tally w k b n c) {base : Nat} {e : TypeId} {size : Nat} {v : Value} {m : Nat} {xs : List Value} (hr : w.ownsRow base e size v m xs) : v.ownBlock ≠ some b := fun e' => by
  rcases hr.2 with ⟨h', _⟩ | ⟨g', c, cur, h', _, hg, _⟩
  · rw [h'] at e'; cases e'
  · rw [h'] at e'
    have : g' = b := Option.some.inj e'
    subst this
    exact h.notCells hg
theorem ne_sn : (77 : TypeId) ≠ 81 := by decide
theorem ne_sf : (77 : TypeId) ≠ 38 := by decide
theorem ne_si : (77 : TypeId) ≠ 3 := by decide
theorem ne_nf : (81 : TypeId) ≠ 38 := by decide
theorem ne_ni : (81 : TypeId) ≠ 3 := by decide
theorem ne_fi : (38 : TypeId) ≠ 3 := by decide
/-- A row stays where its block stays. -/
theorem row_same {w w' : World} {base : Nat} {e : TypeId} {size : Nat} {v : Value} {n : Nat} {xs : List Value} (h : w.ownsRow base e size v n xs) (hb : ∀ k, v.ownBlock = some k → k < w.heap.size → w'.heap[k]? = w.heap[k]?) : w'.ownsRow base e size v n xs := by
  refine ⟨h.1, ?_⟩
  rcases h.2 with h' | ⟨g, cap, cur, h', hbg, hg, r⟩
  · exact .inl h'
  · exact .inr ⟨g, cap, cur, h', hbg, (hb g (by rw [h']; rfl) (Array.getElem?_eq_some_iff.1 hg).1).trans hg, r⟩
theorem Tally.same {w w' : World} {k b n : Nat} {c : Value → Option Int} (h : Tally w k b n c) (hb : w'.heap[b]? = w.heap[b]?) : Tally w' k b n c := by
  obtain ⟨D, ⟨es, clock, h1, h2⟩, hc⟩ := h
  exact ⟨D, ⟨es, clock, hb.trans h1, h2⟩, hc⟩
theorem Core.lt {w : World} {B K m1 m2 m3 : Nat} {sl : Value} {L : List Rw} {c1 c2 c3 : Value → Option Int} (h : Core w B K m1 m2 m3 sl L c1 c2 c3) : ∀ k, foot B m1 m2 m3 sl L k → k < w.heap.size := by
  rintro k (rfl | rfl | rfl | rfl | hk | ⟨r, hr, hk⟩)
  · exact h.top.lt
  · exact h.t1.lt
  · exact h.t2.lt
  · exact h.t3.lt
  · exact (h.row.lt k hk).2
  · obtain ⟨i, hi⟩ := List.getElem?_of_mem hr
    rcases hk with hk | hk
    · exact ((h.frames i r hi).lt k hk).2
    · exact ((h.pops i r hi).lt k hk).2
theorem Core.kept {w w' : World} {B K m1 m2 m3 : Nat} {sl : Value} {L : List Rw} {c1 c2 c3 : Value → Option Int} (h : Core w B K m1 m2 m3 sl L c1 c2 c3) {G : Nat → Prop} (hf : Far G w w') (hG : ∀ k, foot B m1 m2 m3 sl L k → ¬ G k) : Core w' B K m1 m2 m3 sl L c1 c2 c3 := by
  have hb : ∀ k, foot B m1 m2 m3 sl L k → w'.heap[k]? = w.heap[k]? := fun k hk => hf.block k (h.lt k hk) (hG k hk)
  exact ⟨(hb _ (.inl rfl)).trans h.top, row_same h.row fun k hk _ => hb k (.inr (.inr (.inr (.inr (.inl hk))))),
    fun i r hr => row_same (h.frames i r hr) fun k hk _ => hb k (.inr (.inr (.inr (.inr (.inr ⟨r, List.mem_of_getElem? hr, .inl hk⟩))))),
    fun i r hr => row_same (h.pops i r hr) fun k hk _ => hb k (.inr (.inr (.inr (.inr (.inr ⟨r, List.mem_of_getElem? hr, .inr hk⟩))))),
    h.apartF, h.apartP, h.t1.same (hb _ (.inr (.inl rfl))), h.t2.same (hb _ (.inr (.inr (.inl rfl)))), h.t3.same (hb _ (.inr (.inr (.inr (.inl rfl))))), h.m12, h.m13, h.m23, h.told, h.many, h.long⟩
theorem grown_far {w w' : World} {row : Option Nat} (h : w.grownBy w' row) : Far (fun k => row = some k) w w' := ⟨h.os, h.tape, h.output, h.size, fun k hk hn => h.block k hk fun e => hn e.symm⟩
theorem Core.mono {w : World} {B K K' m1 m2 m3 : Nat} {sl : Value} {L : List Rw} {c1 c2 c3 : Value → Option Int} (h : Core w B K m1 m2 m3 sl L c1 c2 c3) (hK : K ≤ K') : Core w B K' m1 m2 m3 sl L c1 c2 c3 :=
  ⟨h.top, h.row, h.frames, h.pops, h.apartF, h.apartP, h.t1.mono hK, h.t2.mono hK, h.t3.mono hK, h.m12, h.m13, h.m23, h.told.mono hK, Nat.le_trans h.many hK, fun i r hr => ⟨Nat.le_trans (h.long i r hr).1 hK, Nat.le_trans (h.long i r hr).2 hK⟩⟩
theorem map_set {L : List Rw} {i : Nat} {r r' : Rw} : (L.set i r').map Rw.nd = (L.map Rw.nd).set i r'.nd := by simp
/-- The stack with a frame more. -/
theorem Core.framed {w : World} {B K m1 m2 m3 : Nat} {sl : Value} {L : List Rw} {c1 c2 c3 : Value → Option Int} {i : Nat} {r : Rw} {fv : Value} {x y : Int} (h : Core w B K m1 m2 m3 sl L c1 c2 c3) (hr : L[i]? = some r) {w6 : World}
    (hf : Far (fun k => k = m2 ∨ sl.ownBlock = some k ∨ r.fv.ownBlock = some k) w w6) (hfv : fv.ownBlock = r.fv.ownBlock ∨ ∃ g, fv.ownBlock = some g ∧ w.heap.size ≤ g)
    (htop : Bk w6 B 77 #[sl, .map (some m1), .map (some m2), .map (some m3)])
    (hrow : w6.ownsRow 0 81 4 sl L.length ((nc L).set (i * 4 + 2) fv)) (hfr : w6.ownsRow 0 38 2 fv (r.nd.fs.length + 1) (fcells r.nd.fs ++ [.int .i64 x, .int .i64 y]))
    (hT : Tally w6 88 m2 (K + 1) (putAt c2 (tr i x y) 1)) : Core w6 B (K + 1) m1 m2 m3 sl (L.set i ⟨⟨r.nd.mark, r.nd.place, r.nd.fs ++ [(x, y)], r.nd.ps⟩, fv, r.pv⟩) c1 (putAt c2 (tr i x y) 1) c3 := by
  have hi : i < L.length := (List.getElem?_eq_some_iff.1 hr).1
  refine ⟨htop, ?_, fun j s hs => ?_, fun j s hs => ?_, fun j k s t hs ht hne => ?_, fun j k s t hs ht hne => ?_, ?_, hT, ?_, h.m12, h.m13, h.m23, ?_, ?_, fun j s hs => ?_⟩
  · rw [List.length_set, ← nc_set2 hr]; exact hrow
  · rcases set_get hs with ⟨rfl, _, rfl⟩ | ⟨hne, hs⟩
    · rw [show ((⟨⟨r.nd.mark, r.nd.place, r.nd.fs ++ [(x, y)], r.nd.ps⟩, fv, r.pv⟩ : Rw).nd.fs) = r.nd.fs ++ [(x, y)] from rfl, fcells_app, List.length_append]; exact hfr
    · refine row_same (h.frames j s hs) fun k hk hlt => hf.block k hlt ?_
      rintro (rfl | e | e)
      · exact tally_ne h.t2 (h.frames j s hs) hk
      · rcases rows_ne h.row (h.frames j s hs) ne_nf with e' | e'
        · rw [e'] at e; cases e
        · exact e' (e.trans hk.symm)
      · rcases h.apartF i j r s hr hs hne with e' | e'
        · rw [e'] at e; cases e
        · exact e' (e.trans hk.symm)
  · obtain ⟨s0, hs0, e1, e2⟩ : ∃ s0, L[j]? = some s0 ∧ s.nd.ps = s0.nd.ps ∧ s.pv = s0.pv := by
      rcases set_get hs with ⟨rfl, _, rfl⟩ | ⟨hne, hs⟩
      · exact ⟨r, hr, rfl, rfl⟩
      · exact ⟨s, hs, rfl, rfl⟩
    rw [e1, e2]
    refine row_same (h.pops j s0 hs0) fun k hk hlt => hf.block k hlt ?_
    rintro (rfl | e | e)
    · exact tally_ne h.t2 (h.pops j s0 hs0) hk
    · rcases rows_ne h.row (h.pops j s0 hs0) ne_ni with e' | e'
      · rw [e'] at e; cases e
      · exact e' (e.trans hk.symm)
    · rcases rows_ne (h.frames i r hr) (h.pops j s0 hs0) ne_fi with e' | e'
      · rw [e'] at e; cases e
      · exact e' (e.trans hk.symm)
  · rcases set_get hs with ⟨rfl, _, rfl⟩ | ⟨h1, hs⟩ <;> rcases set_get ht with ⟨h2, _, rfl⟩ | ⟨h2, ht⟩
    · exact absurd h2 hne
    · rcases hfv with e | ⟨g, e, hg⟩
      · rw [show (⟨⟨r.nd.mark, r.nd.place, r.nd.fs ++ [(x, y)], r.nd.ps⟩, fv, r.pv⟩ : Rw).fv = fv from rfl, e]; exact h.apartF i k r t hr ht hne
      · right
        intro e'
        have := ((h.frames k t ht).lt g (e'.symm.trans e)).2
        omega
    · subst h2
      rcases hfv with e | ⟨g, e, hg⟩
      · rw [show (⟨⟨r.nd.mark, r.nd.place, r.nd.fs ++ [(x, y)], r.nd.ps⟩, fv, r.pv⟩ : Rw).fv = fv from rfl, e]; exact h.apartF j i s r hs hr hne
      · right
        intro e'
        have := ((h.frames j s hs).lt g (e'.trans e)).2
        omega
    · exact h.apartF j k s t hs ht hne
  · obtain ⟨s0, hs0, e1⟩ : ∃ s0, L[j]? = some s0 ∧ s.pv = s0.pv := by
      rcases set_get hs with ⟨rfl, _, rfl⟩ | ⟨hne, hs⟩
      · exact ⟨r, hr, rfl⟩
      · exact ⟨s, hs, rfl⟩
    obtain ⟨t0, ht0, e2⟩ : ∃ t0, L[k]? = some t0 ∧ t.pv = t0.pv := by
      rcases set_get ht with ⟨rfl, _, rfl⟩ | ⟨hne, hs⟩
      · exact ⟨r, hr, rfl⟩
      · exact ⟨t, hs, rfl⟩
    rw [e1, e2]
    exact h.apartP j k s0 t0 hs0 ht0 hne
  · refine (h.t1.mono (Nat.le_succ K)).same (hf.block _ h.t1.lt ?_)
    rintro (e | e | e)
    · exact h.m12 e
    · exact tally_ne h.t1 h.row e
    · exact tally_ne h.t1 (h.frames i r hr) e
  · refine (h.t3.mono (Nat.le_succ K)).same (hf.block _ h.t3.lt ?_)
    rintro (e | e | e)
    · exact h.m23 e.symm
    · exact tally_ne h.t3 h.row e
    · exact tally_ne h.t3 (h.frames i r hr) e
  · rw [map_set (r := r)]
    exact h.told.frame (by rw [List.getElem?_map, hr]; rfl) x y 1 (by omega) (by omega)
  · have := h.many; rw [List.length_set]; omega
  · rcases set_get hs with ⟨rfl, _, rfl⟩ | ⟨hne, hs⟩
    · have := h.long i r hr
      simp only [List.length_append, List.length_cons, List.length_nil]
      omega
    · have := h.long j s hs
      omega
/-- The stack with a pop more. -/
theorem Core.popped {w : World} {B K m1 m2 m3 : Nat} {sl : Value} {L : List Rw} {c1 c2 c3 : Value → Option Int} {i : Nat} {r : Rw} {pv : Value} {x : Int} (h : Core w B K m1 m2 m3 sl L c1 c2 c3) (hr : L[i]? = some r) {w6 : World}
    (hf : Far (fun k => k = m3 ∨ sl.ownBlock = some k ∨ r.pv.ownBlock = some k) w w6) (hpv : pv.ownBlock = r.pv.ownBlock ∨ ∃ g, pv.ownBlock = some g ∧ w.heap.size ≤ g)
    (htop : Bk w6 B 77 #[sl, .map (some m1), .map (some m2), .map (some m3)])
    (hrow : w6.ownsRow 0 81 4 sl L.length ((nc L).set (i * 4 + 3) pv)) (hfr : w6.ownsRow 0 3 1 pv (r.nd.ps.length + 1) (pcells r.nd.ps ++ [.int .i64 x]))
    (hT : Tally w6 70 m3 (K + 1) (putAt c3 (sp i x) 1)) : Core w6 B (K + 1) m1 m2 m3 sl (L.set i ⟨⟨r.nd.mark, r.nd.place, r.nd.fs, r.nd.ps ++ [x]⟩, r.fv, pv⟩) c1 c2 (putAt c3 (sp i x) 1) := by
  have hi : i < L.length := (List.getElem?_eq_some_iff.1 hr).1
  refine ⟨htop, ?_, fun j s hs => ?_, fun j s hs => ?_, fun j k s t hs ht hne => ?_, fun j k s t hs ht hne => ?_, ?_, ?_, hT, h.m12, h.m13, h.m23, ?_, ?_, fun j s hs => ?_⟩
  · rw [List.length_set, ← nc_set3 hr]; exact hrow
  · obtain ⟨s0, hs0, e1, e2⟩ : ∃ s0, L[j]? = some s0 ∧ s.nd.fs = s0.nd.fs ∧ s.fv = s0.fv := by
      rcases set_get hs with ⟨rfl, _, rfl⟩ | ⟨hne, hs⟩
      · exact ⟨r, hr, rfl, rfl⟩
      · exact ⟨s, hs, rfl, rfl⟩
    rw [e1, e2]
    refine row_same (h.frames j s0 hs0) fun k hk hlt => hf.block k hlt ?_
    rintro (rfl | e | e)
    · exact tally_ne h.t3 (h.frames j s0 hs0) hk
    · rcases rows_ne h.row (h.frames j s0 hs0) ne_nf with e' | e'
      · rw [e'] at e; cases e
      · exact e' (e.trans hk.symm)
    · rcases rows_ne (h.frames j s0 hs0) (h.pops i r hr) ne_fi with e' | e'
      · rw [e'] at hk; cases hk
      · exact e' (hk.trans e.symm)
  · rcases set_get hs with ⟨rfl, _, rfl⟩ | ⟨hne, hs⟩
    · rw [show ((⟨⟨r.nd.mark, r.nd.place, r.nd.fs, r.nd.ps ++ [x]⟩, r.fv, pv⟩ : Rw).nd.ps) = r.nd.ps ++ [x] from rfl, pcells_app, List.length_append]; exact hfr
    · refine row_same (h.pops j s hs) fun k hk hlt => hf.block k hlt ?_
      rintro (rfl | e | e)
      · exact tally_ne h.t3 (h.pops j s hs) hk
      · rcases rows_ne h.row (h.pops j s hs) ne_ni with e' | e'
        · rw [e'] at e; cases e
        · exact e' (e.trans hk.symm)
      · rcases h.apartP i j r s hr hs hne with e' | e'
        · rw [e'] at e; cases e
        · exact e' (e.trans hk.symm)
  · obtain ⟨s0, hs0, e1⟩ : ∃ s0, L[j]? = some s0 ∧ s.fv = s0.fv := by
      rcases set_get hs with ⟨rfl, _, rfl⟩ | ⟨hne, hs⟩
      · exact ⟨r, hr, rfl⟩
      · exact ⟨s, hs, rfl⟩
    obtain ⟨t0, ht0, e2⟩ : ∃ t0, L[k]? = some t0 ∧ t.fv = t0.fv := by
      rcases set_get ht with ⟨rfl, _, rfl⟩ | ⟨hne, hs⟩
      · exact ⟨r, hr, rfl⟩
      · exact ⟨t, hs, rfl⟩
    rw [e1, e2]
    exact h.apartF j k s0 t0 hs0 ht0 hne
  · rcases set_get hs with ⟨rfl, _, rfl⟩ | ⟨h1, hs⟩ <;> rcases set_get ht with ⟨h2, _, rfl⟩ | ⟨h2, ht⟩
    · exact absurd h2 hne
    · rcases hpv with e | ⟨g, e, hg⟩
      · rw [show (⟨⟨r.nd.mark, r.nd.place, r.nd.fs, r.nd.ps ++ [x]⟩, r.fv, pv⟩ : Rw).pv = pv from rfl, e]; exact h.apartP i k r t hr ht hne
      · right
        intro e'
        have := ((h.pops k t ht).lt g (e'.symm.trans e)).2
        omega
    · subst h2
      rcases hpv with e | ⟨g, e, hg⟩
      · rw [show (⟨⟨r.nd.mark, r.nd.place, r.nd.fs, r.nd.ps ++ [x]⟩, r.fv, pv⟩ : Rw).pv = pv from rfl, e]; exact h.apartP j i s r hs hr hne
      · right
        intro e'
        have := ((h.pops j s hs).lt g (e'.trans e)).2
        omega
    · exact h.apartP j k s t hs ht hne
  · refine (h.t1.mono (Nat.le_succ K)).same (hf.block _ h.t1.lt ?_)
    rintro (e | e | e)
    · exact h.m13 e
    · exact tally_ne h.t1 h.row e
    · exact tally_ne h.t1 (h.pops i r hr) e
  · refine (h.t2.mono (Nat.le_succ K)).same (hf.block _ h.t2.lt ?_)
    rintro (e | e | e)
    · exact h.m23 e
    · exact tally_ne h.t2 h.row e
    · exact tally_ne h.t2 (h.pops i r hr) e
  · rw [map_set (r := r)]
    exact h.told.pop (by rw [List.getElem?_map, hr]; rfl) x 1 (by omega) (by omega)
  · have := h.many; rw [List.length_set]; omega
  · rcases set_get hs with ⟨rfl, _, rfl⟩ | ⟨hne, hs⟩
    · have := h.long i r hr
      simp only [List.length_append, List.length_cons, List.length_nil]
      omega
    · have := h.long j s hs
      omega
end Go.Proofs.Ythpkbeooplpinaa
