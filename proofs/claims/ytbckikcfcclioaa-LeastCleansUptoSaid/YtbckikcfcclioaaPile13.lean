/-
  What is still to be looked at, on a pile: the arithmetic of it; a list of numbers of the call's own.
-/
import Derived.Test.YtbckikcfcclioaaUsedFn13
import Derived.Laws.AppendOwn
namespace Go.Proofs.Ytbckikcfcclioaa
open Go.RowKit
set_option linter.unusedVariables false
set_option linter.unusedSimpArgs false
def nts (l : List Sy) : List Nat := (l.filter fun x => !x.1).map fun x => x.2.toNat
theorem nts_mem {l : List Sy} {k : Nat} : k ∈ nts l ↔ InB l k := by
  unfold nts InB
  simp only [List.mem_map, List.mem_filter, Bool.not_eq_true']
  exact ⟨fun ⟨x, ⟨h1, h2⟩, h3⟩ => ⟨x, h1, h2, h3⟩, fun ⟨x, h1, h2, h3⟩ => ⟨x, ⟨h1, h2⟩, h3⟩⟩
theorem nts_len (l : List Sy) : (nts l).length ≤ l.length := by
  unfold nts
  rw [List.length_map]
  exact List.length_filter_le _ _
theorem nts_succ {l : List Sy} {j : Nat} {x : Sy} (h : l[j]? = some x) : nts (l.take (j + 1)) = nts (l.take j) ++ if x.1 then [] else [x.2.toNat] := by
  obtain ⟨h1, h2⟩ := List.getElem?_eq_some_iff.1 h
  unfold nts
  rw [List.take_succ_eq_append_getElem h1, h2, List.filter_append, List.map_append]
  congr 1
  cases hx : x.1 <;> simp [hx]
/-- What the productions with the head n push. -/
def psh (n : Nat) : List Tr → List Nat
  | [] => []
  | t :: T => (if t.1.toNat = n then nts t.2.2 else []) ++ psh n T
def tot : List Tr → Nat
  | [] => 0
  | t :: T => t.2.2.length + tot T
theorem psh_app (n : Nat) : ∀ A B : List Tr, psh n (A ++ B) = psh n A ++ psh n B
  | [], B => rfl
  | t :: A, B => by rw [List.cons_append, psh, psh, psh_app n A B, List.append_assoc]
theorem tot_app : ∀ A B : List Tr, tot (A ++ B) = tot A + tot B
  | [], B => by simp [tot]
  | t :: A, B => by rw [List.cons_append, tot, tot, tot_app A B]; omega
theorem psh_len (n : Nat) : ∀ T, (psh n T).length ≤ tot T
  | [] => Nat.le_refl _
  | t :: T => by
    have h1 := psh_len n T
    have h2 := nts_len t.2.2
    rw [psh, tot, List.length_append]
    split <;> simp <;> omega
theorem psh_succ {T : List Tr} {i n : Nat} {t : Tr} (h : T[i]? = some t) : psh n (T.take (i + 1)) = psh n (T.take i) ++ if t.1.toNat = n then nts t.2.2 else [] := by
  obtain ⟨h1, h2⟩ := List.getElem?_eq_some_iff.1 h
  rw [List.take_succ_eq_append_getElem h1, h2, psh_app]
  simp [psh]
theorem tot_take (T : List Tr) (i : Nat) : tot (T.take i) ≤ tot T := by
  have := tot_app (T.take i) (T.drop i)
  rw [List.take_append_drop] at this
  omega
theorem tot_at {T : List Tr} {i : Nat} {t : Tr} (h : T[i]? = some t) : tot (T.take i) + t.2.2.length ≤ tot T := by
  obtain ⟨h1, h2⟩ := List.getElem?_eq_some_iff.1 h
  have := tot_take T (i + 1)
  rw [List.take_succ_eq_append_getElem h1, h2, tot_app] at this
  simpa [tot] using this
theorem psh_mem {n : Nat} {T : List Tr} {k : Nat} : k ∈ psh n T ↔ ∃ t ∈ T, t.1.toNat = n ∧ InB t.2.2 k := by
  induction T with
  | nil => simp [psh]
  | cons t T ih =>
    rw [psh, List.mem_append, ih]
    by_cases e : t.1.toNat = n
    · rw [if_pos e, nts_mem]
      exact ⟨fun h => h.elim (fun q => ⟨t, List.mem_cons_self .., e, q⟩) (fun ⟨u, h1, h2⟩ => ⟨u, List.mem_cons_of_mem _ h1, h2⟩), fun ⟨u, h1, h2, h3⟩ => (List.mem_cons.1 h1).elim (fun q => .inl (by rw [← q]; exact h3)) (fun q => .inr ⟨u, q, h2, h3⟩)⟩
    · rw [if_neg e]
      exact ⟨fun h => h.elim (fun q => absurd q (List.not_mem_nil)) (fun ⟨u, h1, h2⟩ => ⟨u, List.mem_cons_of_mem _ h1, h2⟩), fun ⟨u, h1, h2, h3⟩ => (List.mem_cons.1 h1).elim (fun q => absurd (by rw [← q]; exact h2) e) (fun q => .inr ⟨u, q, h2, h3⟩)⟩
structure Pile (T : List Tr) (F : Nat → Prop) (S : Nat) (X : Nat → Bool) (L : List Nat) : Prop where
  lt : ∀ k ∈ L, k < S
  snd : ∀ C, ClosedU T C → (∀ k, F k → C k = true) → (∀ k, X k = true → C k = true) ∧ ∀ k ∈ L, C k = true
  full : ∀ t ∈ T, X t.1.toNat = true → ∀ k, InB t.2.2 k → X k = true ∨ k ∈ L
  frm : ∀ j, F j → X j = true ∨ j ∈ L
theorem Pile.skip {T : List Tr} {F : Nat → Prop} {S : Nat} {X : Nat → Bool} {L : List Nat} {k : Nat} (h : Pile T F S X (L ++ [k])) (hk : X k = true) : Pile T F S X L :=
  have drop : ∀ j, X j = true ∨ j ∈ L ++ [k] → X j = true ∨ j ∈ L := fun j q => q.elim .inl fun q2 => (List.mem_append.1 q2).elim .inr fun q3 => .inl (by rw [List.mem_singleton.1 q3]; exact hk)
  ⟨fun j hj => h.lt j (List.mem_append.2 (.inl hj)), fun C hC hF => ⟨(h.snd C hC hF).1, fun j hj => (h.snd C hC hF).2 j (List.mem_append.2 (.inl hj))⟩, fun t ht hX j hj => drop j (h.full t ht hX j hj), fun j hj => drop j (h.frm j hj)⟩
theorem Pile.mark {T : List Tr} {F : Nat → Prop} {S : Nat} {X : Nat → Bool} {L : List Nat} {k : Nat} (hok : CnfOK (S : Int) T) (h : Pile T F S X (L ++ [k])) : Pile T F S (updG X k true) (L ++ psh k T) := by
  have hup : ∀ j, updG X k true j = true ↔ (j = k ∨ X j = true) := fun j => by
    unfold updG
    split
    · rename_i e; simp [e]
    · rename_i e; simp [e]
  have drop : ∀ j, X j = true ∨ j ∈ L ++ [k] → updG X k true j = true ∨ j ∈ L ++ psh k T := fun j q => q.elim (fun q => .inl ((hup j).2 (.inr q))) fun q2 => (List.mem_append.1 q2).elim (fun q3 => .inr (List.mem_append.2 (.inl q3))) fun q3 => .inl ((hup j).2 (.inl (List.mem_singleton.1 q3)))
  refine ⟨fun j hj => ?_, fun C hC hF => ?_, fun t ht hX j hj => ?_, fun j hj => drop j (h.frm j hj)⟩
  · rcases List.mem_append.1 hj with q | q
    · exact h.lt j (List.mem_append.2 (.inl q))
    · obtain ⟨t, ht, _, x, hx, h1, h2⟩ := psh_mem.1 q
      have q0 := (hok.2 t ht).2 x hx
      have q1 := q0.2.2 h1
      have q2 := q0.1
      omega
  · obtain ⟨h1, h2⟩ := h.snd C hC hF
    have hk := h2 k (List.mem_append.2 (.inr (by simp)))
    refine ⟨fun j hj => ((hup j).1 hj).elim (fun e => by rw [e]; exact hk) (h1 j), fun j hj => ?_⟩
    rcases List.mem_append.1 hj with q | q
    · exact h2 j (List.mem_append.2 (.inl q))
    · obtain ⟨t, ht, e, hb⟩ := psh_mem.1 q
      exact hC t ht (by rw [e]; exact hk) j hb
  · rcases (hup _).1 hX with e | e
    · exact .inr (List.mem_append.2 (.inr (psh_mem.2 ⟨t, ht, e, hj⟩)))
    · exact drop j (h.full t ht e j hj)
theorem Pile.done {T : List Tr} {F : Nat → Prop} {S : Nat} {X : Nat → Bool} (h : Pile T F S X []) : ClosedU T X ∧ (∀ j, F j → X j = true) ∧ LeastU T F X :=
  ⟨fun t ht hX k hk => (h.full t ht hX k hk).elim id fun q => absurd q (List.not_mem_nil), fun j hj => (h.frm j hj).elim id fun q => absurd q (List.not_mem_nil), fun C hC hF => (h.snd C hC hF).1⟩
theorem pile_less {a a' n m : Nat} (h : a' < a) : a' * (n + 1) + (m + n) < a * (n + 1) + (m + 1) := by
  have : a' * (n + 1) + (n + 1) ≤ a * (n + 1) := by rw [← Nat.succ_mul]; exact Nat.mul_le_mul_right _ h
  omega
theorem used_uniq {T : List Tr} {F : Nat → Prop} {U V : Nat → Bool} (c : ClosedU T U) (f : ∀ j, F j → U j = true) (l : LeastU T F U) (c' : ClosedU T V) (f' : ∀ j, F j → V j = true) (l' : LeastU T F V) (k : Nat) : U k = V k := by
  rw [Bool.eq_iff_iff]
  exact ⟨l V c' f' k, l' U c f k⟩
abbrev ints (L : List Nat) : List Value := L.map fun (x : Nat) => .int .i64 (x : Int)
theorem own_in {w : World} {base n cap g : Nat} {e : TypeId} {size : Nat} {xs : List Value} (h : w.ownsRow base e size (.slice (some ⟨g, 0, none⟩) n cap) n xs) : base ≤ g ∧ g < w.heap.size := h.lt g rfl
theorem own_cap {w : World} {base n cap g : Nat} {e : TypeId} {size : Nat} {xs : List Value} (h : w.ownsRow base e size (.slice (some ⟨g, 0, none⟩) n cap) n xs) : n ≤ cap := by
  rcases h.2 with ⟨h0, _⟩ | ⟨g', cap', cur, hv, _, _, h1, _⟩
  · cases h0
  · injection hv with e1 e2 e3
    omega
/-- The last one is cut off. -/
theorem own_cut {w : World} {base m cap g : Nat} {e : TypeId} {xs : List Value} {u : Value} (h : w.ownsRow base e 1 (.slice (some ⟨g, 0, none⟩) (m + 1) cap) (m + 1) (xs ++ [u])) : w.ownsRow base e 1 (.slice (some ⟨g, 0, none⟩) m cap) m xs := by
  have hl := h.1
  simp at hl
  refine ⟨by omega, ?_⟩
  rcases h.2 with ⟨h0, _⟩ | ⟨g', cap', cur, hv, hbb, hh, h1, h2, h3, h4⟩
  · cases h0
  · refine .inr ⟨g', cap', cur, ?_, hbb, hh, by omega, h2, h3, ?_⟩
    · injection hv with e1 e2 e3
      rw [e1, e3]
    · have : (cur.toList.take ((m + 1) * 1)).take (m * 1) = (xs ++ [u]).take (m * 1) := by rw [h4]
      rw [List.take_take] at this
      rw [show min (m * 1) ((m + 1) * 1) = m * 1 by omega] at this
      rw [this, List.take_append_of_le_length (by omega), List.take_of_length_le (by omega)]
theorem own_last {w : World} {base m cap g : Nat} {e : TypeId} {xs : List Value} {u : Value} (h : w.ownsRow base e 1 (.slice (some ⟨g, 0, none⟩) (m + 1) cap) (m + 1) (xs ++ [u])) : w.cell? ⟨g, m, none⟩ = some u := by
  have hl := h.1
  simp at hl
  rw [h.cellAt m (by omega), List.getElem?_append_right (by omega)]
  simp [show m - xs.length = 0 by omega]
theorem own_form {w : World} {base m : Nat} {e : TypeId} {v : Value} {xs : List Value} (h : w.ownsRow base e 1 v m xs) (hm : 0 < m) : ∃ g cap, v = .slice (some ⟨g, 0, none⟩) m cap := by
  rcases h.2 with ⟨_, h1⟩ | ⟨g, cap, cur, hv, _⟩
  · omega
  · exact ⟨g, cap, hv⟩
end Go.Proofs.Ytbckikcfcclioaa
