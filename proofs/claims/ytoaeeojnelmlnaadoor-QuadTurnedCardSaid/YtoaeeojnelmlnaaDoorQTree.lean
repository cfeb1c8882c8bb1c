/-
  The tree of four as numbers: where each part lies, what a part more does.
-/
import Derived.Test.YtoaeeojnelmlnaaDoorMath
namespace Go.Proofs.YtoaeeojnelmlnaaDoor
set_option linter.unusedVariables false
set_option linter.unusedSimpArgs false
/-- In which quarter of a square of level l + 1 a place lies. -/
def qd (i j l : Nat) : Nat := 2 * (i / 2 ^ l % 2) + j / 2 ^ l % 2
theorem qd_lt (i j l : Nat) : qd i j l < 4 := by unfold qd; omega
/-- At one level, one place: another number. -/
def put3 (A : Nat → Nat → Nat → Nat) (l a b v : Nat) : Nat → Nat → Nat → Nat := fun l' a' b' => if l' = l ∧ a' = a ∧ b' = b then v else A l' a' b'
theorem put3_at (A : Nat → Nat → Nat → Nat) (l a b v : Nat) : put3 A l a b v l a b = v := by simp [put3]
theorem put3_ne {A : Nat → Nat → Nat → Nat} {l a b v l' a' b' : Nat} (h : ¬ (l' = l ∧ a' = a ∧ b' = b)) : put3 A l a b v l' a' b' = A l' a' b' := by simp [put3, h]
theorem half (i l : Nat) : i / 2 ^ (l + 1) = i / 2 ^ l / 2 := by rw [Nat.pow_succ, Nat.div_div_eq_div_mul]
/-- A tree: root's number, the nodes' parts; A: the number of the part at a level and place (0: none); ps: the leaves' places. -/
structure Tree (lv root : Nat) (ns : List (Nat → Nat)) (A : Nat → Nat → Nat → Nat) (ps : List (Nat × Nat)) : Prop where
  root : A lv 0 0 = root
  top : ∀ a b, A lv a b ≠ 0 → a = 0 ∧ b = 0
  high : ∀ l a b, lv < l → A l a b = 0
  node : ∀ l a b, A (l + 1) a b ≠ 0 → ∃ f, ns[A (l + 1) a b - 1]? = some f ∧ ∀ x y, x < 2 → y < 2 → f (2 * x + y) = A l (2 * a + x) (2 * b + y)
  up : ∀ l a b, l < lv → A l a b ≠ 0 → A (l + 1) (a / 2) (b / 2) ≠ 0
  inj : ∀ l a b l' a' b', A (l + 1) a b ≠ 0 → A (l + 1) a b = A (l' + 1) a' b' → l = l' ∧ a = a' ∧ b = b'
  leaf : ∀ a b, A 0 a b ≠ 0 → ps[A 0 a b - 1]? = some (a, b)
  place : ∀ (k : Nat) (p : Nat × Nat), ps[k]? = some p → A 0 p.1 p.2 = k + 1
variable {lv root : Nat} {ns : List (Nat → Nat)} {A : Nat → Nat → Nat → Nat} {ps : List (Nat × Nat)}
theorem Tree.empty (lv : Nat) : Tree lv 0 [] (fun _ _ _ => 0) [] :=
  ⟨rfl, fun _ _ h => absurd rfl h, fun _ _ _ _ => rfl, fun _ _ _ h => absurd rfl h, fun _ _ _ _ h => absurd rfl h, fun _ _ _ _ _ _ h => absurd rfl h, fun _ _ h => absurd rfl h, fun k p h => by simp at h⟩
theorem Tree.below (h : Tree lv root ns A ps) {l a b : Nat} (hn : A (l + 1) a b ≠ 0) : A (l + 1) a b ≤ ns.length := by
  obtain ⟨f, hf, _⟩ := h.node l a b hn
  have := (List.getElem?_eq_some_iff.1 hf).1
  omega
theorem Tree.leaf_below (h : Tree lv root ns A ps) {a b : Nat} (hn : A 0 a b ≠ 0) : A 0 a b ≤ ps.length := by
  have := (List.getElem?_eq_some_iff.1 (h.leaf a b hn)).1
  omega
/-- A step of the way down. -/
theorem Tree.step (h : Tree lv root ns A ps) {i j l : Nat} (hn : A (l + 1) (i / 2 ^ (l + 1)) (j / 2 ^ (l + 1)) ≠ 0) :
    ∃ f, ns[A (l + 1) (i / 2 ^ (l + 1)) (j / 2 ^ (l + 1)) - 1]? = some f ∧ f (qd i j l) = A l (i / 2 ^ l) (j / 2 ^ l) := by
  obtain ⟨f, hf, hp⟩ := h.node _ _ _ hn
  refine ⟨f, hf, ?_⟩
  have := hp (i / 2 ^ l % 2) (j / 2 ^ l % 2) (Nat.mod_lt _ (by decide)) (Nat.mod_lt _ (by decide))
  rw [half i l, half j l] at this
  unfold qd
  rw [this]
  congr 1
  · omega
  · omega
/-- Where a part is missing, all below is. -/
theorem Tree.none (h : Tree lv root ns A ps) {i j : Nat} : ∀ {l : Nat}, l ≤ lv → A l (i / 2 ^ l) (j / 2 ^ l) = 0 → A 0 i j = 0
  | 0, _, h0 => by simpa using h0
  | l + 1, hl, h0 => h.none (l := l) (by omega) (Classical.byContradiction fun hne => h.up l _ _ (by omega) hne (by rw [← half, ← half]; exact h0))
theorem Tree.range (h : Tree lv root ns A ps) {i j : Nat} (hn : A 0 i j ≠ 0) : i < 2 ^ lv ∧ j < 2 ^ lv := by
  have key : ∀ l, l ≤ lv → A l (i / 2 ^ l) (j / 2 ^ l) ≠ 0 := fun l => by
    induction l with
    | zero => intro _; simpa using hn
    | succ l ih => intro hl; rw [half, half]; exact h.up l _ _ (by omega) (ih (by omega))
  obtain ⟨h1, h2⟩ := h.top _ _ (key lv (Nat.le_refl _))
  exact ⟨(Nat.div_eq_zero_iff_lt (Nat.two_pow_pos _)).1 h1, (Nat.div_eq_zero_iff_lt (Nat.two_pow_pos _)).1 h2⟩
theorem Tree.apart (h : Tree lv root ns A ps) {a b c d : Nat} (hn : A 0 a b ≠ 0) (he : A 0 a b = A 0 c d) : a = c ∧ b = d := by
  have h1 := h.leaf a b hn
  have h2 := h.leaf c d (by omega)
  rw [he, h2] at h1
  simp at h1
  exact ⟨h1.1.symm, h1.2.symm⟩
theorem Tree.nodup (h : Tree lv root ns A ps) : ps.Nodup := by
  refine List.pairwise_iff_getElem.2 fun i j hi hj hij he => ?_
  have h1 := h.place i _ (List.getElem?_eq_getElem hi)
  have h2 := h.place j _ (List.getElem?_eq_getElem hj)
  rw [he] at h1
  omega
/-- The root, where there was none and it is a node. -/
theorem Tree.root_node {l : Nat} (h : Tree (l + 1) 0 ns A ps) : Tree (l + 1) (ns.length + 1) (ns ++ [fun _ => 0]) (put3 A (l + 1) 0 0 (ns.length + 1)) ps := by
  have h0 : ∀ a b, A (l + 1) a b = 0 := fun a b => Classical.byContradiction fun hne => by
    obtain ⟨rfl, rfl⟩ := h.top a b hne
    exact hne h.root
  have hl : ∀ a b, A l a b = 0 := fun a b => Classical.byContradiction fun hne => h.up l a b (by omega) hne (h0 _ _)
  refine ⟨put3_at .., fun a b hne => ?_, fun l' a b hlt => ?_, fun l' a b hne => ?_, fun l' a b hlt hne => ?_, fun l1 a b l2 c d hne he => ?_, fun a b hne => ?_, fun k p hp => ?_⟩
  · by_cases e : a = 0 ∧ b = 0
    · exact e
    · rw [put3_ne (by intro h; exact e h.2)] at hne
      exact absurd (h0 a b) hne
  · rw [put3_ne (by omega)]; exact h.high _ _ _ hlt
  · by_cases e : l' + 1 = l + 1 ∧ a = 0 ∧ b = 0
    · obtain ⟨e1, rfl, rfl⟩ := e
      obtain rfl : l' = l := by omega
      rw [put3_at]
      refine ⟨fun _ => 0, by simp, fun x y _ _ => ?_⟩
      rw [put3_ne (by omega)]
      exact (hl _ _).symm
    · rw [put3_ne e] at hne ⊢
      obtain ⟨f, hf, hp⟩ := h.node l' a b hne
      refine ⟨f, by rw [List.getElem?_append_left (List.getElem?_eq_some_iff.1 hf).1]; exact hf, fun x y hx hy => ?_⟩
      rw [hp x y hx hy]
      by_cases e2 : l' = l + 1 ∧ 2 * a + x = 0 ∧ 2 * b + y = 0
      · obtain ⟨rfl, _, _⟩ := e2
        exact absurd (h.high _ _ _ (by omega)) hne
      · rw [put3_ne e2]
  · have hA : A l' a b ≠ 0 := by
      rw [put3_ne (by omega)] at hne
      exact hne
    have h1 := h.up l' a b hlt hA
    by_cases e : l' + 1 = l + 1 ∧ a / 2 = 0 ∧ b / 2 = 0
    · obtain ⟨e1, e2, e3⟩ := e; rw [e1, e2, e3, put3_at]; omega
    · rw [put3_ne e]; exact h1
  · by_cases e1 : l1 + 1 = l + 1 ∧ a = 0 ∧ b = 0
    · by_cases e2 : l2 + 1 = l + 1 ∧ c = 0 ∧ d = 0
      · omega
      · obtain ⟨e1, rfl, rfl⟩ := e1
        rw [e1, put3_at, put3_ne e2] at he
        have := h.below (l := l2) (a := c) (b := d) (by omega)
        omega
    · rw [put3_ne e1] at hne he
      by_cases e2 : l2 + 1 = l + 1 ∧ c = 0 ∧ d = 0
      · obtain ⟨e2, rfl, rfl⟩ := e2
        rw [e2, put3_at] at he
        have := h.below hne
        omega
      · rw [put3_ne e2] at he
        exact h.inj _ _ _ _ _ _ hne he
  · rw [put3_ne (by omega)] at hne ⊢
    exact h.leaf a b hne
  · rw [put3_ne (by omega)]
    exact h.place k p hp
/-- The root, where it is a leaf. -/
theorem Tree.root_leaf (h : Tree 0 0 ns A ps) : Tree 0 (ps.length + 1) ns (put3 A 0 0 0 (ps.length + 1)) (ps ++ [(0, 0)]) := by
  have h0 : ∀ a b, A 0 a b = 0 := fun a b => Classical.byContradiction fun hne => by
    obtain ⟨rfl, rfl⟩ := h.top a b hne
    exact hne h.root
  have hz : ∀ l a b, A l a b = 0 := fun l a b => by
    rcases Nat.eq_zero_or_pos l with rfl | hl
    · exact h0 a b
    · exact h.high _ _ _ hl
  have hps : ps = [] := by
    cases ps with
    | nil => rfl
    | cons p ps => have := h.place 0 p rfl; rw [h0] at this; omega
  subst hps
  refine ⟨put3_at .., fun a b hne => ?_, fun l' a b hlt => ?_, fun l' a b hne => ?_, fun l' a b hlt hne => by omega, fun l1 a b l2 c d hne he => ?_, fun a b hne => ?_, fun k p hp => ?_⟩
  · by_cases e : a = 0 ∧ b = 0
    · exact e
    · rw [put3_ne (by intro h; exact e h.2)] at hne
      exact absurd (h0 a b) hne
  · rw [put3_ne (by omega)]; exact hz _ _ _
  · rw [put3_ne (by omega)] at hne; exact absurd (hz _ _ _) hne
  · rw [put3_ne (by omega)] at hne; exact absurd (hz _ _ _) hne
  · by_cases e : a = 0 ∧ b = 0
    · obtain ⟨rfl, rfl⟩ := e; rw [put3_at]; rfl
    · rw [put3_ne (by intro h; exact e h.2)] at hne
      exact absurd (h0 a b) hne
  · cases k with
    | zero => simp at hp; subst hp; rw [put3_at]; rfl
    | succ k => simp at hp
theorem set_two {f : Nat → Nat} {q v : Nat} (x : Nat) : upd f q v x = if x = q then v else f x := rfl
/-- A node more, below a node. -/
theorem Tree.more_node (h : Tree lv root ns A ps) {l a b : Nat} {f : Nat → Nat} (hl : l + 1 < lv) (hn : A (l + 2) (a / 2) (b / 2) ≠ 0) (h0 : A (l + 1) a b = 0) (hf : ns[A (l + 2) (a / 2) (b / 2) - 1]? = some f) :
    Tree lv root ((ns ++ [fun _ => 0]).set (A (l + 2) (a / 2) (b / 2) - 1) (upd f (2 * (a % 2) + b % 2) (ns.length + 1))) (put3 A (l + 1) a b (ns.length + 1)) ps := by
  obtain ⟨n, hN⟩ : ∃ n, n = A (l + 2) (a / 2) (b / 2) := ⟨_, rfl⟩
  rw [← hN] at hn hf ⊢
  have hfl := (List.getElem?_eq_some_iff.1 hf).1
  have hl0 : ∀ x y, x < 2 → y < 2 → A l (2 * a + x) (2 * b + y) = 0 := fun x y hx hy => Classical.byContradiction fun hne => h.up l _ _ (by omega) hne (by rw [show (2 * a + x) / 2 = a by omega, show (2 * b + y) / 2 = b by omega]; exact h0)
  refine ⟨?_, fun c d hne => ?_, fun l' c d hlt => ?_, fun l' c d hne => ?_, fun l' c d hlt hne => ?_, fun l1 c d l2 c' d' hne he => ?_, fun c d hne => ?_, fun k p hp => ?_⟩
  · rw [put3_ne (by omega)]; exact h.root
  · rw [put3_ne (by omega)] at hne; exact h.top _ _ hne
  · rw [put3_ne (by omega)]; exact h.high _ _ _ hlt
  · by_cases e : l' + 1 = l + 1 ∧ c = a ∧ d = b
    · obtain ⟨e1, rfl, rfl⟩ := e
      obtain rfl : l' = l := by omega
      rw [put3_at]
      refine ⟨fun _ => 0, by rw [List.getElem?_set_ne (by omega)]; simp, fun x y hx hy => ?_⟩
      rw [put3_ne (by omega)]
      exact (hl0 x y hx hy).symm
    · rw [put3_ne e] at hne ⊢
      by_cases e2 : l' = l + 1 ∧ c = a / 2 ∧ d = b / 2
      · obtain ⟨rfl, rfl, rfl⟩ := e2
        rw [← hN]
        refine ⟨_, by rw [List.getElem?_set_self (by simp; omega)], fun x y hx hy => ?_⟩
        obtain ⟨f', hf', hp⟩ := h.node (l + 1) _ _ hne
        rw [← hN, hf] at hf'
        cases hf'
        rw [set_two]
        by_cases e3 : 2 * x + y = 2 * (a % 2) + b % 2
        · rw [if_pos e3, show 2 * (a / 2) + x = a by omega, show 2 * (b / 2) + y = b by omega, put3_at]
        · rw [if_neg e3, hp x y hx hy, put3_ne (by intro e4; apply e3; omega)]
      · obtain ⟨f', hf', hp⟩ := h.node l' c d hne
        have hne2 : A (l' + 1) c d ≠ n := fun e3 => by
          have := h.inj l' c d (l + 1) (a / 2) (b / 2) hne (by rw [e3, hN])
          omega
        have hlt := (List.getElem?_eq_some_iff.1 hf').1
        refine ⟨f', by rw [List.getElem?_set_ne (by omega), List.getElem?_append_left hlt]; exact hf', fun x y hx hy => ?_⟩
        rw [hp x y hx hy, put3_ne]
        rintro ⟨rfl, e4, e5⟩
        apply e2
        omega
  · by_cases e : l' = l + 1 ∧ c = a ∧ d = b
    · obtain ⟨rfl, rfl, rfl⟩ := e
      rw [put3_ne (by omega), ← hN]
      exact hn
    · rw [put3_ne e] at hne
      by_cases e2 : l' + 1 = l + 1 ∧ c / 2 = a ∧ d / 2 = b
      · obtain ⟨e2, rfl, rfl⟩ := e2
        rw [e2, put3_at]; omega
      · rw [put3_ne e2]; exact h.up _ _ _ hlt hne
  · by_cases e1 : l1 + 1 = l + 1 ∧ c = a ∧ d = b
    · by_cases e2 : l2 + 1 = l + 1 ∧ c' = a ∧ d' = b
      · omega
      · obtain ⟨e1, rfl, rfl⟩ := e1
        rw [e1, put3_at, put3_ne e2] at he
        have := h.below (l := l2) (a := c') (b := d') (by omega)
        omega
    · rw [put3_ne e1] at hne he
      by_cases e2 : l2 + 1 = l + 1 ∧ c' = a ∧ d' = b
      · obtain ⟨e2, rfl, rfl⟩ := e2
        rw [e2, put3_at] at he
        have := h.below hne
        omega
      · rw [put3_ne e2] at he
        exact h.inj _ _ _ _ _ _ hne he
  · rw [put3_ne (by omega)] at hne ⊢
    exact h.leaf c d hne
  · rw [put3_ne (by omega)]
    exact h.place k p hp
/-- A leaf more, below a node. -/
theorem Tree.more_leaf (h : Tree lv root ns A ps) {a b : Nat} {f : Nat → Nat} (hl : 0 < lv) (hn : A 1 (a / 2) (b / 2) ≠ 0) (h0 : A 0 a b = 0) (hf : ns[A 1 (a / 2) (b / 2) - 1]? = some f) :
    Tree lv root (ns.set (A 1 (a / 2) (b / 2) - 1) (upd f (2 * (a % 2) + b % 2) (ps.length + 1))) (put3 A 0 a b (ps.length + 1)) (ps ++ [(a, b)]) := by
  obtain ⟨n, hN⟩ : ∃ n, n = A 1 (a / 2) (b / 2) := ⟨_, rfl⟩
  rw [← hN] at hn hf ⊢
  have hfl := (List.getElem?_eq_some_iff.1 hf).1
  refine ⟨?_, fun c d hne => ?_, fun l' c d hlt => ?_, fun l' c d hne => ?_, fun l' c d hlt hne => ?_, fun l1 c d l2 c' d' hne he => ?_, fun c d hne => ?_, fun k p hp => ?_⟩
  · rw [put3_ne (by omega)]; exact h.root
  · rw [put3_ne (by omega)] at hne; exact h.top _ _ hne
  · rw [put3_ne (by omega)]; exact h.high _ _ _ hlt
  · rw [put3_ne (by omega)] at hne ⊢
    by_cases e2 : l' = 0 ∧ c = a / 2 ∧ d = b / 2
    · obtain ⟨rfl, rfl, rfl⟩ := e2
      rw [← hN]
      refine ⟨_, by rw [List.getElem?_set_self hfl], fun x y hx hy => ?_⟩
      obtain ⟨f', hf', hp⟩ := h.node 0 _ _ hne
      rw [← hN, hf] at hf'
      cases hf'
      rw [set_two]
      by_cases e3 : 2 * x + y = 2 * (a % 2) + b % 2
      · rw [if_pos e3, show 2 * (a / 2) + x = a by omega, show 2 * (b / 2) + y = b by omega, put3_at]
      · rw [if_neg e3, hp x y hx hy, put3_ne (by intro e4; apply e3; omega)]
    · obtain ⟨f', hf', hp⟩ := h.node l' c d hne
      have hne2 : A (l' + 1) c d ≠ n := fun e3 => by
        have := h.inj l' c d 0 (a / 2) (b / 2) hne (by rw [e3, hN])
        omega
      refine ⟨f', by rw [List.getElem?_set_ne (by omega)]; exact hf', fun x y hx hy => ?_⟩
      rw [hp x y hx hy, put3_ne]
      rintro ⟨rfl, e4, e5⟩
      apply e2
      omega
  · by_cases e : l' = 0 ∧ c = a ∧ d = b
    · obtain ⟨rfl, rfl, rfl⟩ := e
      rw [put3_ne (by omega), ← hN]
      exact hn
    · rw [put3_ne e] at hne
      rw [put3_ne (by omega)]; exact h.up _ _ _ hlt hne
  · rw [put3_ne (by omega)] at hne he
    rw [put3_ne (by omega)] at he
    exact h.inj _ _ _ _ _ _ hne he
  · by_cases e : c = a ∧ d = b
    · obtain ⟨rfl, rfl⟩ := e
      rw [put3_at]; simp
    · rw [put3_ne (by intro h; exact e h.2)] at hne ⊢
      have := h.leaf c d hne
      rw [List.getElem?_append_left (List.getElem?_eq_some_iff.1 this).1]; exact this
  · rcases Nat.lt_or_ge k ps.length with hk | hk
    · rw [List.getElem?_append_left hk] at hp
      have h1 := h.place k p hp
      rw [put3_ne]
      · exact h1
      · rintro ⟨_, e1, e2⟩; rw [e1, e2, h0] at h1; omega
    · rw [List.getElem?_append_right hk] at hp
      rcases hk2 : k - ps.length with _ | m
      · rw [hk2] at hp
        have : p = (a, b) := by simpa using hp.symm
        subst this
        rw [put3_at]; omega
      · rw [hk2] at hp; simp at hp
end Go.Proofs.YtoaeeojnelmlnaaDoor
