/-
  The cells of a matrix as one rising list; what Cells tells is this list.
-/
import Derived.Test.YtjolkhiggcmoiaaGreatDoorQTurnedLaw
import Derived.Test.YtjolkhiggcmoiaaGreatDoorQNums
namespace Go.Proofs.YtjolkhiggcmoiaaGreatDoor
open Go.RowKit
set_option linter.unusedVariables false
set_option linter.unusedSimpArgs false
/-- One cell stands ahead of another one. -/
def lexLt (p q : Nat × Nat) : Prop := p.1 < q.1 ∨ (p.1 = q.1 ∧ p.2 < q.2)
theorem lexLt.trans {a b c : Nat × Nat} (h : lexLt a b) (k : lexLt b c) : lexLt a c := by unfold lexLt at *; omega
theorem lexLt.irrefl {a : Nat × Nat} (h : lexLt a a) : False := by unfold lexLt at h; omega
theorem rise_eq : ∀ {l m : List (Nat × Nat)}, l.Pairwise lexLt → m.Pairwise lexLt → (∀ x, x ∈ l ↔ x ∈ m) → l = m
  | [], [], _, _, _ => rfl
  | [], y :: m, _, _, h => absurd ((h y).2 (List.mem_cons_self ..)) (by simp)
  | x :: l, [], _, _, h => absurd ((h x).1 (List.mem_cons_self ..)) (by simp)
  | x :: l, y :: m, hl, hm, h => by
    rw [List.pairwise_cons] at hl hm
    have hxy : x = y := by
      rcases List.mem_cons.1 ((h x).1 (List.mem_cons_self ..)) with e | e
      · exact e
      · rcases List.mem_cons.1 ((h y).2 (List.mem_cons_self ..)) with e2 | e2
        · exact e2.symm
        · exact ((hl.1 y e2).trans (hm.1 x e)).irrefl.elim
    subst hxy
    rw [rise_eq hl.2 hm.2 fun z => ?_]
    constructor
    · intro hz
      rcases List.mem_cons.1 ((h z).1 (List.mem_cons_of_mem _ hz)) with e | e
      · subst e; exact ((hl.1 _ hz).irrefl).elim
      · exact e
    · intro hz
      rcases List.mem_cons.1 ((h z).2 (List.mem_cons_of_mem _ hz)) with e | e
      · subst e; exact ((hm.1 _ hz).irrefl).elim
      · exact e
theorem add_row (p : Nat × Nat) (k : Nat) (a : Nat) : ∀ (cs : List Nat) (L : Nat → List (Nat × Nat)), ((cs.map fun c => (k, c)).foldl (addC p) L) a = if a = k then L a ++ cs.map fun c => (64 * p.1 + a, 64 * p.2 + c) else L a
  | [], L => by simp
  | c :: cs, L => by
    rw [List.map_cons, List.foldl_cons, add_row p k a cs]
    unfold addC updL
    by_cases e : a = k
    · subst e; simp
    · simp [e]
theorem add_rows (p : Nat × Nat) (f : Nat → Nat) (a : Nat) (L : Nat → List (Nat × Nat)) : ∀ k, ((cellsUp f k).foldl (addC p) L) a = if a < k then L a ++ (rowW (f a)).map fun c => (64 * p.1 + a, 64 * p.2 + c) else L a
  | 0 => by simp [cellsUp]
  | k + 1 => by
    rw [cellsUp, List.foldl_append, add_row, add_rows p f a L k]
    by_cases e : a = k
    · subst e; simp
    · by_cases h : a < k
      · simp [e, h]; intro h2; omega
      · simp [e, h]; intro h2; omega
theorem flat_rise {α : Type} {f : α → List (Nat × Nat)} {l : List α} (h1 : ∀ a ∈ l, (f a).Pairwise lexLt) (h2 : l.Pairwise fun a b => ∀ x ∈ f a, ∀ y ∈ f b, lexLt x y) : (l.flatMap f).Pairwise lexLt := List.pairwise_flatMap.2 ⟨h1, h2⟩
theorem rowW_rise (x : Nat) : (rowW x).Pairwise (· < ·) := List.Pairwise.filter _ List.pairwise_lt_range
theorem strip_flat (M : Nat → Nat → Bool) (a : Nat) (ha : a < 64) : ∀ (S : List (Nat × Nat)) (L : Nat → List (Nat × Nat)), (S.foldl (addP M) L) a = L a ++ S.flatMap fun p => (rowW (blk (sub M p.1 p.2) a)).map fun c => (64 * p.1 + a, 64 * p.2 + c)
  | [], L => by simp
  | p :: S, L => by
    rw [List.foldl_cons, strip_flat M a ha S]
    unfold addP
    rw [add_rows, if_pos ha, List.flatMap_cons, List.append_assoc]
theorem flat_congr {α β : Type} {f g : α → List β} : ∀ {l : List α}, (∀ a ∈ l, f a = g a) → l.flatMap f = l.flatMap g
  | [], _ => rfl
  | a :: l, h => by rw [List.flatMap_cons, List.flatMap_cons, h a (List.mem_cons_self ..), flat_congr fun b hb => h b (List.mem_cons_of_mem _ hb)]
theorem cellsS_flat (M : Nat → Nat → Bool) (S : List (Nat × Nat)) : cellsS M S = (List.range 64).flatMap fun a => S.flatMap fun p => (rowW (blk (sub M p.1 p.2) a)).map fun c => (64 * p.1 + a, 64 * p.2 + c) := by
  rw [cellsS_eq]
  refine flat_congr fun a ha => ?_
  unfold stripL
  rw [strip_flat M a (List.mem_range.1 ha)]
  rfl
theorem mem_rowS {M : Nat → Nat → Bool} {a : Nat} {p y : Nat × Nat} (ha : a < 64) : (y ∈ (rowW (blk (sub M p.1 p.2) a)).map fun c => (64 * p.1 + a, 64 * p.2 + c)) ↔ y.1 = 64 * p.1 + a ∧ y.2 / 64 = p.2 ∧ M y.1 y.2 = true := by
  obtain ⟨r, c⟩ := y
  rw [List.mem_map]
  constructor
  · rintro ⟨k, hk, e⟩
    rw [Prod.mk.injEq] at e
    obtain ⟨rfl, rfl⟩ := e
    obtain ⟨h1, h2⟩ := mem_rowW.1 hk
    rw [blk_bit _ _ _ h1] at h2
    exact ⟨rfl, by show (64 * p.2 + k) / 64 = p.2; omega, h2⟩
  · rintro ⟨h1, h2, h3⟩
    simp only at h1 h2 h3
    refine ⟨c % 64, mem_rowW.2 ⟨Nat.mod_lt _ (by decide), ?_⟩, ?_⟩
    · rw [blk_bit _ _ _ (Nat.mod_lt _ (by decide))]
      unfold sub
      rw [← h1, show 64 * p.2 + c % 64 = c by omega]
      exact h3
    · rw [Prod.mk.injEq]; exact ⟨h1.symm, by omega⟩
theorem mem_cellsS {M : Nat → Nat → Bool} {S : List (Nat × Nat)} {y : Nat × Nat} : y ∈ cellsS M S ↔ (y.1 / 64, y.2 / 64) ∈ S ∧ M y.1 y.2 = true := by
  rw [cellsS_flat, List.mem_flatMap]
  constructor
  · rintro ⟨a, ha, h⟩
    rw [List.mem_flatMap] at h
    obtain ⟨p, hp, h⟩ := h
    obtain ⟨h1, h2, h3⟩ := (mem_rowS (List.mem_range.1 ha)).1 h
    have ha := List.mem_range.1 ha
    refine ⟨?_, h3⟩
    rw [show (y.1 / 64, y.2 / 64) = p from Prod.ext (by show y.1 / 64 = p.1; omega) h2]
    exact hp
  · rintro ⟨hp, h3⟩
    refine ⟨y.1 % 64, List.mem_range.2 (Nat.mod_lt _ (by decide)), List.mem_flatMap.2 ⟨_, hp, (mem_rowS (Nat.mod_lt _ (by decide))).2 ⟨?_, rfl, h3⟩⟩⟩
    show y.1 = 64 * (y.1 / 64) + y.1 % 64
    omega
theorem mem_cellsF {M : Nat → Nat → Bool} {y : Nat × Nat} : ∀ {n : Nat} {S : List (Nat × Nat)}, S.length ≤ n → (y ∈ cellsF M n S ↔ (y.1 / 64, y.2 / 64) ∈ S ∧ M y.1 y.2 = true)
  | n, [], _ => by rw [cellsF_nil]; simp
  | n, p :: S, hn => by
    obtain ⟨m, rfl, e⟩ := cellsF_step M (S := p :: S) (by simp) hn
    have h1 := stripN_pos (S := p :: S) (by simp)
    rw [e, List.mem_append, mem_cellsS, mem_cellsF (n := m) (S := (p :: S).drop (stripN (p :: S))) (by rw [List.length_drop]; omega)]
    conv => rhs; rw [← List.take_append_drop (stripN (p :: S)) (p :: S), List.mem_append]
    constructor
    · rintro (⟨h, k⟩ | ⟨h, k⟩)
      · exact ⟨.inl h, k⟩
      · exact ⟨.inr h, k⟩
    · rintro ⟨h | h, k⟩
      · exact .inl ⟨h, k⟩
      · exact .inr ⟨h, k⟩
theorem rise_cellsS {M : Nat → Nat → Bool} {S : List (Nat × Nat)} {a : Nat} (h1 : ∀ p ∈ S, p.1 = a) (h2 : S.Pairwise fun p q => p.2 < q.2) : (cellsS M S).Pairwise lexLt := by
  rw [cellsS_flat]
  refine flat_rise (fun r hr => flat_rise (fun p hp => ?_) ?_) ?_
  · rw [List.pairwise_map]
    exact (rowW_rise _).imp fun h => .inr ⟨rfl, by show _ + _ < _ + _; omega⟩
  · refine (h2.imp_of_mem fun {p q} hp hq h x hx y hy => ?_)
    have hr := List.mem_range.1 hr
    obtain ⟨a1, a2, _⟩ := (mem_rowS hr).1 hx
    obtain ⟨b1, b2, _⟩ := (mem_rowS hr).1 hy
    have e1 := h1 p hp
    have e2 := h1 q hq
    refine .inr ⟨by omega, by omega⟩
  · refine List.pairwise_lt_range.imp_of_mem fun {r s} hr hs h x hx y hy => ?_
    rw [List.mem_flatMap] at hx hy
    obtain ⟨p, hp, hx⟩ := hx
    obtain ⟨q, hq, hy⟩ := hy
    obtain ⟨a1, _, _⟩ := (mem_rowS (List.mem_range.1 hr)).1 hx
    obtain ⟨b1, _, _⟩ := (mem_rowS (List.mem_range.1 hs)).1 hy
    have e1 := h1 p hp
    have e2 := h1 q hq
    exact .inl (by omega)
theorem strip_take {p : Nat × Nat} {S : List (Nat × Nat)} : (p :: S).take (stripN (p :: S)) = (p :: S).takeWhile fun q => decide (q.1 = p.1) := (List.prefix_iff_eq_take.1 (List.takeWhile_prefix _)).symm
theorem strip_drop {p : Nat × Nat} {S : List (Nat × Nat)} : (p :: S).drop (stripN (p :: S)) = (p :: S).dropWhile fun q => decide (q.1 = p.1) := by
  have h := List.takeWhile_append_dropWhile (p := fun q : Nat × Nat => decide (q.1 = p.1)) (l := p :: S)
  have h2 := List.take_append_drop (stripN (p :: S)) (p :: S)
  rw [strip_take] at h2
  exact List.append_cancel_left (h2.trans h.symm)
theorem dropWhile_head {α : Type} {f : α → Bool} : ∀ {l : List α} {x : α} {m : List α}, l.dropWhile f = x :: m → f x = false
  | [], _, _, h => by simp at h
  | y :: l, x, m, h => by
    rw [List.dropWhile_cons] at h
    split at h
    · exact dropWhile_head h
    · rename_i hn
      cases h
      simpa using hn
theorem rise_cellsF {M : Nat → Nat → Bool} : ∀ {n : Nat} {S : List (Nat × Nat)}, S.length ≤ n → (∀ p ∈ S, p.2 < 16) → (S.Pairwise fun p q => p.1 * 16 + p.2 < q.1 * 16 + q.2) → (cellsF M n S).Pairwise lexLt
  | n, [], _, _, _ => by rw [cellsF_nil]; exact List.Pairwise.nil
  | n, p :: S, hn, h16, hr => by
    obtain ⟨m, rfl, e⟩ := cellsF_step M (S := p :: S) (by simp) hn
    have h1 := stripN_pos (S := p :: S) (by simp)
    have hT : ∀ q ∈ (p :: S).take (stripN (p :: S)), q.1 = p.1 := fun q hq => by
      rw [strip_take] at hq
      have := List.all_takeWhile (p := fun q : Nat × Nat => decide (q.1 = p.1)) (l := p :: S)
      simpa using List.all_eq_true.1 this q hq
    have hD : ∀ q ∈ (p :: S).drop (stripN (p :: S)), p.1 < q.1 := fun q hq => by
      have hqm := List.mem_of_mem_drop hq
      have hpq : p.1 * 16 + p.2 < q.1 * 16 + q.2 ∨ p = q := by
        rcases List.mem_cons.1 hqm with e | e
        · exact .inr e.symm
        · exact .inl ((List.pairwise_cons.1 hr).1 q e)
      have hp2 := h16 p (List.mem_cons_self ..)
      have hq2 := h16 q hqm
      rw [strip_drop] at hq
      generalize hd : (p :: S).dropWhile (fun q => decide (q.1 = p.1)) = D at hq
      have hsub : D.Sublist (p :: S) := hd ▸ List.dropWhile_sublist _
      cases D with
      | nil => cases hq
      | cons x D =>
        have hx := dropWhile_head hd
        rw [decide_eq_false_iff_not] at hx
        have hx2 := h16 x (hsub.subset (List.mem_cons_self ..))
        have hpx : p.1 * 16 + p.2 < x.1 * 16 + x.2 := by
          rcases List.mem_cons.1 (hsub.subset (List.mem_cons_self ..)) with e | e
          · subst e; exact absurd rfl hx
          · exact (List.pairwise_cons.1 hr).1 x e
        rcases List.mem_cons.1 hq with rfl | hq
        · omega
        · have := (List.pairwise_cons.1 (hr.sublist hsub)).1 q hq
          omega
    rw [e]
    refine List.pairwise_append.2 ⟨?_, ?_, fun x hx y hy => ?_⟩
    · refine rise_cellsS hT ?_
      refine ((hr.sublist (List.take_sublist _ _)).imp_of_mem fun {x y} hx hy h => ?_)
      have := hT x hx
      have := hT y hy
      omega
    · exact rise_cellsF (n := m) (by rw [List.length_drop]; omega) (fun q hq => h16 q (List.mem_of_mem_drop hq)) (hr.sublist (List.drop_sublist _ _))
    · have hx1 := hT _ (mem_cellsS.1 hx).1
      have hy1 := hD _ ((mem_cellsF (n := m) (by rw [List.length_drop]; omega)).1 hy).1
      simp only at hx1 hy1
      exact .inl (by omega)
/-- The columns of a row's cells, rising. -/
def colsM (M : Nat → Nat → Bool) (side r : Nat) : List Nat := (List.range side).filter fun c => M r c
/-- The cells of the first k rows, rising. -/
def cellsK (M : Nat → Nat → Bool) (side k : Nat) : List (Nat × Nat) := (List.range k).flatMap fun r => (colsM M side r).map fun c => (r, c)
/-- All cells, rising. -/
def cellsL (M : Nat → Nat → Bool) (side : Nat) : List (Nat × Nat) := cellsK M side side
theorem mem_colsM {M : Nat → Nat → Bool} {side r c : Nat} : c ∈ colsM M side r ↔ c < side ∧ M r c = true := by unfold colsM; simp
theorem cellsK_succ (M : Nat → Nat → Bool) (side k : Nat) : cellsK M side (k + 1) = cellsK M side k ++ (colsM M side k).map fun c => (k, c) := by
  unfold cellsK
  rw [List.range_succ, List.flatMap_append]
  simp
theorem mem_cellsK {M : Nat → Nat → Bool} {side k : Nat} {y : Nat × Nat} : y ∈ cellsK M side k ↔ y.1 < k ∧ y.2 < side ∧ M y.1 y.2 = true := by
  unfold cellsK
  rw [List.mem_flatMap]
  constructor
  · rintro ⟨r, hr, h⟩
    rw [List.mem_map] at h
    obtain ⟨c, hc, rfl⟩ := h
    exact ⟨List.mem_range.1 hr, mem_colsM.1 hc⟩
  · rintro ⟨h1, h2⟩
    exact ⟨y.1, List.mem_range.2 h1, List.mem_map.2 ⟨y.2, mem_colsM.2 h2, rfl⟩⟩
theorem colsM_rise (M : Nat → Nat → Bool) (side r : Nat) : (colsM M side r).Pairwise (· < ·) := List.Pairwise.filter _ List.pairwise_lt_range
theorem cellsK_rise (M : Nat → Nat → Bool) (side k : Nat) : (cellsK M side k).Pairwise lexLt := by
  refine flat_rise (fun r _ => ?_) (List.pairwise_lt_range.imp fun {r s} h x hx y hy => ?_)
  · rw [List.pairwise_map]
    exact (colsM_rise M side r).imp fun h => .inr ⟨rfl, h⟩
  · rw [List.mem_map] at hx hy
    obtain ⟨c, _, rfl⟩ := hx
    obtain ⟨d, _, rfl⟩ := hy
    exact .inl h
/-- What Cells tells. -/
theorem cells_canon {M : Nat → Nat → Bool} {side : Nat} (hs : side ≤ 1024) (hw : ∀ r c, M r c = true → r < side ∧ c < side) : cellsF M (placesL M side).length (placesL M side) = cellsL M side := by
  refine rise_eq (rise_cellsF (Nat.le_refl _) (fun p hp => ?_) (rise_placesL M hs)) (cellsK_rise M side side) fun y => ?_
  · obtain ⟨_, h2, _⟩ := mem_placesL.1 hp
    have := lns_le hs
    omega
  · rw [mem_cellsF (Nat.le_refl _), cellsL, mem_cellsK]
    constructor
    · rintro ⟨_, h⟩
      obtain ⟨h1, h2⟩ := hw _ _ h
      exact ⟨h1, h2, h⟩
    · rintro ⟨h1, h2, h3⟩
      refine ⟨mem_placesL.2 ⟨?_, ?_, nzB_iff.2 ⟨y.1 % 64, y.2 % 64, Nat.mod_lt _ (by decide), Nat.mod_lt _ (by decide), ?_⟩⟩, h3⟩
      · unfold lns; show y.1 / 64 < _; omega
      · unfold lns; show y.2 / 64 < _; omega
      · unfold sub
        show M (64 * (y.1 / 64) + y.1 % 64) (64 * (y.2 / 64) + y.2 % 64) = true
        rw [Nat.div_add_mod, Nat.div_add_mod]
        exact h3
theorem mem_cellsL {M : Nat → Nat → Bool} {side : Nat} (hw : ∀ r c, M r c = true → r < side ∧ c < side) {y : Nat × Nat} : y ∈ cellsL M side ↔ M y.1 y.2 = true := by
  rw [cellsL, mem_cellsK]
  exact ⟨fun h => h.2.2, fun h => ⟨(hw _ _ h).1, (hw _ _ h).2, h⟩⟩
theorem sumN_more {f : Nat → Nat} {n : Nat} (h : ∀ i, n ≤ i → f i = 0) : ∀ k, sumN f (n + k) = sumN f n
  | 0 => rfl
  | k + 1 => by rw [← Nat.add_assoc]; simp only [sumN]; rw [sumN_more h k, h _ (by omega), Nat.add_zero]
theorem filter_len (f : Nat → Bool) : ∀ n, ((List.range n).filter f).length = sumN (fun c => one (f c)) n
  | 0 => rfl
  | n + 1 => by
    rw [List.range_succ, List.filter_append, List.length_append, filter_len f n]
    simp only [sumN, one, List.filter_cons, List.filter_nil]
    cases f n <;> simp
theorem cellsK_len (M : Nat → Nat → Bool) (side : Nat) : ∀ k, (cellsK M side k).length = sumN (fun r => (colsM M side r).length) k
  | 0 => rfl
  | k + 1 => by rw [cellsK_succ, List.length_append, cellsK_len M side k, List.length_map]; rfl
theorem cellsL_len {M : Nat → Nat → Bool} {side : Nat} (hs : side ≤ 1024) (hw : ∀ r c, M r c = true → r < side ∧ c < side) : (cellsL M side).length = numM M := by
  have hc : ∀ r, (colsM M side r).length = sumN (fun c => one (M r c)) 1024 := fun r => by
    unfold colsM
    rw [filter_len]
    obtain ⟨k, hk⟩ : ∃ k, side + k = 1024 := ⟨1024 - side, by omega⟩
    rw [← hk]
    refine (sumN_more (fun i hi => ?_) k).symm
    cases h : M r i
    · rfl
    · exact absurd (hw _ _ h).2 (by omega)
  rw [num_rows, cellsL, cellsK_len]
  rw [sumN_congr fun r _ => hc r]
  obtain ⟨k, hk⟩ : ∃ k, side + k = 1024 := ⟨1024 - side, by omega⟩
  have : ∀ i, side ≤ i → sumN (fun c => one (M i c)) 1024 = 0 := fun i hi => by
    rw [sumN_congr (g := fun _ => 0) fun c _ => ?_, sumN_zero]
    cases h : M i c
    · rfl
    · exact absurd (hw _ _ h).1 (by omega)
  have e := sumN_more (f := fun r => sumN (fun c => one (M r c)) 1024) this k
  rw [hk] at e
  exact e.symm
end Go.Proofs.YtjolkhiggcmoiaaGreatDoor
