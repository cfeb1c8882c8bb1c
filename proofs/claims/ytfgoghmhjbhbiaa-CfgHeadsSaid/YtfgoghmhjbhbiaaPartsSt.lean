/-
  Parts: the three lists so far.
-/
import Derived.Test.YtfgoghmhjbhbiaaParts
namespace Go.Proofs.Ytfgoghmhjbhbiaa
open Go.RowKit
set_option linter.unusedVariables false
set_option linter.unusedSimpArgs false
def hcells (H : List Int) : List Value := H.map fun n => .int .i64 n
theorem hcells_app (H : List Int) (n : Int) : hcells (H ++ [n]) = hcells H ++ [.int .i64 n] := by simp [hcells]
def zeroL (t : Tr) : Bool := t.2.2.length == 0
def oneL (t : Tr) : Bool := t.2.2.length == 1
def twoL (t : Tr) : Bool := !(t.2.2.length == 0) && !(t.2.2.length == 1)
structure PSt (w : World) (B : Nat) (T : List Tr) (i : Nat) (hv lv pv : Value) (H : List Int) (T6 T7 : List Tr) : Prop where
  hs : w.ownsRow B 3 1 hv H.length (hcells H)
  ls : OwnP w B lv T6
  ps : OwnP w B pv T7
  ap : ∀ k, lv.ownBlock = some k → pv.ownBlock ≠ some k
  eh : H = ((T.take i).filter zeroL).map (·.1)
  el : T6.map pl = ((T.take i).filter oneL).map pl
  ep : T7.map pl = ((T.take i).filter twoL).map pl
theorem PSt.move {w w' : World} {B : Nat} {T : List Tr} {i : Nat} {hv lv pv : Value} {H : List Int} {T6 T7 : List Tr} (h : PSt w B T i hv lv pv H T6 T7) (hf : Far (fun _ => False) w w') : PSt w' B T i hv lv pv H T6 T7 :=
  ⟨row_far h.hs hf fun _ _ h => h, h.ls.move hf, h.ps.move hf, h.ap, h.eh, h.el, h.ep⟩
theorem take_filter {T : List Tr} {i : Nat} {t : Tr} (hT : T[i]? = some t) (p : Tr → Bool) : (T.take (i + 1)).filter p = (T.take i).filter p ++ if p t then [t] else [] := by
  have hl := (List.getElem?_eq_some_iff.1 hT).1
  rw [List.take_succ_eq_append_getElem hl, (List.getElem?_eq_some_iff.1 hT).2, List.filter_append]
  cases h : p t <;> simp [h]
theorem PSt.lens {w : World} {B : Nat} {T : List Tr} {i : Nat} {hv lv pv : Value} {H : List Int} {T6 T7 : List Tr} (h : PSt w B T i hv lv pv H T6 T7) : H.length ≤ T.length ∧ T6.length ≤ T.length ∧ T7.length ≤ T.length := by
  have k : ∀ p : Tr → Bool, ((T.take i).filter p).length ≤ T.length := fun p => Nat.le_trans (List.length_filter_le _ _) (by rw [List.length_take]; omega)
  refine ⟨by rw [h.eh, List.length_map]; exact k _, ?_, ?_⟩
  · have := congrArg List.length h.el; simp only [List.length_map] at this; rw [this]; exact k _
  · have := congrArg List.length h.ep; simp only [List.length_map] at this; rw [this]; exact k _
theorem int_ne_prod : (3 : TypeId) ≠ 37 := by decide
theorem int_ne_sym : (3 : TypeId) ≠ 47 := by decide
theorem PSt.push_h {w w5 : World} {B : Nat} {T : List Tr} {i : Nat} {hv hv' lv pv : Value} {H : List Int} {T6 T7 : List Tr} {t : Tr} (h : PSt w B T i hv lv pv H T6 T7) (hT : T[i]? = some t) (hl : t.2.2.length = 0) (hf : Far (fun k => hv.ownBlock = some k) w w5) (ho : w5.ownsRow B 3 1 hv' (H.length + 1) (hcells H ++ [.int .i64 t.1])) : PSt w5 B T (i + 1) hv' lv pv (H ++ [t.1]) T6 T7 := by
  have hB : ∀ k, hv.ownBlock = some k → B ≤ k := fun k hk => (h.hs.lt k hk).1
  have hO : ∀ {v : Value} {T : List Tr}, OwnP w B v T → OwnP w5 B v T := fun ho => ho.far' hf hB (fun k hk hk2 => rows_ne h.hs ho.1 int_ne_prod hk2 hk) fun u l hr k hk hk2 => rows_ne h.hs hr int_ne_sym hk2 hk
  refine ⟨by rw [List.length_append, hcells_app]; exact ho, hO h.ls, hO h.ps, h.ap, ?_, ?_, ?_⟩
  · rw [take_filter hT, List.map_append, ← h.eh]; simp [zeroL, hl]
  · rw [take_filter hT, List.map_append, ← h.el]; simp [oneL, hl]
  · rw [take_filter hT, List.map_append, ← h.ep]; simp [twoL, hl]
theorem PSt.push_l {w w5 : World} {B g c : Nat} {T : List Tr} {i : Nat} {hv lv pv : Value} {H : List Int} {T6 T7 : List Tr} {t : Tr} {bv : Value} (h : PSt w B T i hv lv pv H T6 T7) (hT : T[i]? = some t) (hl : t.2.2.length = 1) (hb : w.ownsRow 0 47 2 bv t.2.2.length (scells t.2.2)) (hf : Far (fun k => lv.ownBlock = some k) w w5) (hg : lv.ownBlock = some g ∨ w.heap.size ≤ g)
    (ho : w5.ownsRow B 37 2 (.slice (some ⟨g, 0, none⟩) (T6.length + 1) c) (T6.length + 1) (tcells T6 ++ [.int .i64 t.1, bv])) : PSt w5 B T (i + 1) hv (.slice (some ⟨g, 0, none⟩) (T6.length + 1) c) pv H (T6 ++ [(t.1, bv, t.2.2)]) T7 := by
  have hB : ∀ k, lv.ownBlock = some k → B ≤ k := fun k hk => (h.ls.1.lt k hk).1
  refine ⟨row_far h.hs hf fun k hk hk2 => rows_ne h.ls.1 h.hs (fun e => int_ne_prod e.symm) hk2 hk, own_push (t := (t.1, bv, t.2.2)) h.ls (.inr hb) hf ho, h.ps.far' hf hB (fun k hk hk2 => h.ap k hk2 hk) (fun u l hr k hk hk2 => rows_ne h.ls.1 hr prod_ne_sym hk2 hk), fun k hk hk2 => ?_, ?_, ?_, ?_⟩
  · obtain rfl : g = k := Option.some.inj hk
    rcases hg with h1 | h1
    · exact h.ap _ h1 hk2
    · have := (h.ps.1.lt _ hk2).2; omega
  · rw [take_filter hT, List.map_append, ← h.eh]; simp [zeroL, hl]
  · rw [take_filter hT, List.map_append, List.map_append, ← h.el]; simp [oneL, hl, pl]
  · rw [take_filter hT, List.map_append, ← h.ep]; simp [twoL, hl]
theorem PSt.push_p {w w5 : World} {B g c : Nat} {T : List Tr} {i : Nat} {hv lv pv : Value} {H : List Int} {T6 T7 : List Tr} {t : Tr} {bv : Value} (h : PSt w B T i hv lv pv H T6 T7) (hT : T[i]? = some t) (hl : 2 ≤ t.2.2.length) (hb : w.ownsRow 0 47 2 bv t.2.2.length (scells t.2.2)) (hf : Far (fun k => pv.ownBlock = some k) w w5) (hg : pv.ownBlock = some g ∨ w.heap.size ≤ g)
    (ho : w5.ownsRow B 37 2 (.slice (some ⟨g, 0, none⟩) (T7.length + 1) c) (T7.length + 1) (tcells T7 ++ [.int .i64 t.1, bv])) : PSt w5 B T (i + 1) hv lv (.slice (some ⟨g, 0, none⟩) (T7.length + 1) c) H T6 (T7 ++ [(t.1, bv, t.2.2)]) := by
  have hB : ∀ k, pv.ownBlock = some k → B ≤ k := fun k hk => (h.ps.1.lt k hk).1
  have e0 : (t.2.2.length == 0) = false := by simp; exact fun e => by rw [e] at hl; simp at hl
  have e1 : (t.2.2.length == 1) = false := by simp; omega
  refine ⟨row_far h.hs hf fun k hk hk2 => rows_ne h.ps.1 h.hs (fun e => int_ne_prod e.symm) hk2 hk, h.ls.far' hf hB (fun k hk hk2 => h.ap k hk hk2) (fun u l hr k hk hk2 => rows_ne h.ps.1 hr prod_ne_sym hk2 hk), own_push (t := (t.1, bv, t.2.2)) h.ps (.inr hb) hf ho, fun k hk hk2 => ?_, ?_, ?_, ?_⟩
  · obtain rfl : g = k := Option.some.inj hk2
    rcases hg with h1 | h1
    · exact h.ap _ hk h1
    · have := (h.ls.1.lt _ hk).2; omega
  · rw [take_filter hT, List.map_append, ← h.eh]; simp [zeroL, e0]
  · rw [take_filter hT, List.map_append, ← h.el]; simp [oneL, e1]
  · rw [take_filter hT, List.map_append, List.map_append, ← h.ep]; simp [twoL, e0, e1, pl]
end Go.Proofs.Ytfgoghmhjbhbiaa
