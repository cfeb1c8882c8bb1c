/-
  A matrix in memory: its tree, its leaves, the cells that it stands for.
-/
import Derived.Test.YtoaeeojnelmlnaaDoorQRow
import Derived.Test.YtoaeeojnelmlnaaDoorQHold
namespace Go.Proofs.YtoaeeojnelmlnaaDoor
open Go.RowKit
set_option linter.unusedVariables false
set_option linter.unusedSimpArgs false
/-- The block at a place, of cells M. -/
def sub (M : Nat → Nat → Bool) (i j : Nat) : Nat → Nat → Bool := fun r c => M (64 * i + r) (64 * j + c)
def nrows (ns : List (Nat → Nat)) : List (List Value) := ns.map fun f => [.int .i64 (f 0 : Nat), .int .i64 (f 1 : Nat), .int .i64 (f 2 : Nat), .int .i64 (f 3 : Nat)]
def lrow (M : Nat → Nat → Bool) (p : Nat × Nat) : List Value := (Rw (blk (sub M p.1 p.2))).toList
def lrows (M : Nat → Nat → Bool) (ps : List (Nat × Nat)) : List (List Value) := ps.map (lrow M)
theorem nrows_even (ns : List (Nat → Nat)) : Even 4 (nrows ns) := fun x hx => by
  simp only [nrows, List.mem_map] at hx
  obtain ⟨f, _, rfl⟩ := hx
  rfl
theorem lrow_len (M : Nat → Nat → Bool) (p : Nat × Nat) : (lrow M p).length = 64 := by simp [lrow, Rw_size]
theorem lrows_even (M : Nat → Nat → Bool) (ps : List (Nat × Nat)) : Even 64 (lrows M ps) := fun x hx => by
  simp only [lrows, List.mem_map] at hx
  obtain ⟨p, _, rfl⟩ := hx
  exact lrow_len M p
theorem lrow_toArray (M : Nat → Nat → Bool) (p : Nat × Nat) : (lrow M p).toArray = Rw (blk (sub M p.1 p.2)) := by simp [lrow]
theorem nrows_get {ns : List (Nat → Nat)} {k : Nat} {f : Nat → Nat} (h : ns[k]? = some f) : (nrows ns)[k]? = some [.int .i64 (f 0 : Nat), .int .i64 (f 1 : Nat), .int .i64 (f 2 : Nat), .int .i64 (f 3 : Nat)] := by simp [nrows, h]
theorem lrows_get {M : Nat → Nat → Bool} {ps : List (Nat × Nat)} {k : Nat} {p : Nat × Nat} (h : ps[k]? = some p) : (lrows M ps)[k]? = some (lrow M p) := by simp [lrows, h]
theorem nrows_set {ns : List (Nat → Nat)} {k q v : Nat} {f : Nat → Nat} (h : ns[k]? = some f) (hq : q < 4) : (nrows ns).flatten.set (k * 4 + q) (.int .i64 (v : Nat)) = (nrows (ns.set k (upd f q v))).flatten := by
  rw [flat_set (nrows_even ns) (nrows_get h) _ hq]
  congr 1
  simp only [nrows, List.map_set]
  congr 1
  rcases (show q = 0 ∨ q = 1 ∨ q = 2 ∨ q = 3 by omega) with rfl | rfl | rfl | rfl <;> simp [upd]
theorem nrows_app (ns : List (Nat → Nat)) : (nrows (ns ++ [fun _ => 0])).flatten = (nrows ns).flatten ++ [.int .i64 0, .int .i64 0, .int .i64 0, .int .i64 0] := by simp [nrows]
theorem lrows_app (M : Nat → Nat → Bool) (ps : List (Nat × Nat)) (p : Nat × Nat) : (lrows M (ps ++ [p])).flatten = (lrows M ps).flatten ++ lrow M p := by simp [lrows]
theorem lrows_one (M : Nat → Nat → Bool) (ps : List (Nat × Nat)) : ∀ u ∈ (lrows M ps).flatten, u.oneCell' = true := flat_one fun x hx u hu => by
  simp only [lrows, List.mem_map] at hx
  obtain ⟨p, _, rfl⟩ := hx
  have := Rw_one (blk (sub M p.1 p.2))
  exact (Array.all_eq_true_iff_forall_mem.1 this) u (by simpa [lrow] using hu)
theorem qb_grown {w w' : World} {g : Nat} {t : TypeId} {cs : Array Value} {row : Option Nat} (h : Bk w g t cs) (hg : w.grownBy w' row) (hne : some g ≠ row) : Bk w' g t cs := (hg.block g h.lt hne).trans h
theorem q_row_ne {w : World} {g : Nat} {t : TypeId} {cs : Array Value} (h : Bk w g t cs) {base : Nat} {e : TypeId} {size : Nat} {v : Value} {n : Nat} {xs : List Value} (hr : w.ownsRow base e size v n xs) (hte : t ≠ e) : v.ownBlock ≠ some g := fun e' => by
  rcases hr.2 with ⟨rfl, _⟩ | ⟨g', cap, cur, rfl, _, hg, _⟩
  · cases e'
  · have : g' = g := Option.some.inj e'
    subst this
    rw [show w.heap[g']? = _ from h] at hg
    cases hg
    exact hte rfl
theorem q_rows_ne {w : World} {b1 s1 n1 b2 s2 n2 : Nat} {e1 e2 : TypeId} {v1 v2 : Value} {x1 x2 : List Value} (h1 : w.ownsRow b1 e1 s1 v1 n1 x1) (h2 : w.ownsRow b2 e2 s2 v2 n2 x2) (hne : e1 ≠ e2) {k : Nat} (hk : v1.ownBlock = some k) : v2.ownBlock ≠ some k := fun e' => by
  rcases h1.2 with ⟨rfl, _⟩ | ⟨g', cap, cur, rfl, _, hg, _⟩
  · cases hk
  · have : g' = k := Option.some.inj hk
    subst this
    exact q_row_ne hg h2 hne e'
theorem q_form {w : World} {b e s n : Nat} {v : Value} {xs : List Value} (h : w.ownsRow b e s v n xs) : ∃ ao cap, v = .slice ao n cap := by
  rcases h.2 with ⟨rfl, rfl⟩ | ⟨g, cap, _, rfl, _⟩
  · exact ⟨none, 0, rfl⟩
  · exact ⟨_, _, rfl⟩
/-- What a matrix's memory is. -/
structure Qc (w : World) (B side lv root : Nat) (nv lvv : Value) (ns : List (Nat → Nat)) (A : Nat → Nat → Nat → Nat) (ps : List (Nat × Nat)) (M : Nat → Nat → Bool) : Prop where
  box : Bk w B 111 #[.int .i64 (side : Nat), .int .i64 (lv : Nat), .int .i64 (root : Nat), nv, lvv]
  nodes : w.ownsRow 0 162 4 nv ns.length (nrows ns).flatten
  leaves : w.ownsRow 0 97 64 lvv ps.length (lrows M ps).flatten
  tree : Tree lv root ns A ps
  side1 : 1 ≤ side
  side2 : side ≤ 1024
  wide : side ≤ 64 * 2 ^ lv
  lv4 : lv ≤ 4
  within : ∀ r c, M r c = true → r < side ∧ c < side
  bare : ∀ i j, A 0 i j = 0 → ∀ r c, r < 64 → c < 64 → M (64 * i + r) (64 * j + c) = false
  small : ∀ p ∈ ps, p.1 < 16 ∧ p.2 < 16
  nfew : ns.length ≤ 2000
/-- .. and each node leads to a leaf. -/
structure Qd (w : World) (B side lv root : Nat) (nv lvv : Value) (ns : List (Nat → Nat)) (A : Nat → Nat → Nat → Nat) (ps : List (Nat × Nat)) (M : Nat → Nat → Bool) : Prop extends Qc w B side lv root nv lvv ns A ps M where
  few : ns.length ≤ lv * ps.length
/-- A list of places without repeats, all small, is short. -/
theorem short_of_nodup : ∀ (n : Nat) (l : List Nat), l.Nodup → (∀ x ∈ l, x < n) → l.length ≤ n
  | 0, [], _, _ => Nat.le_refl _
  | 0, x :: l, _, h => by have := h x (List.mem_cons_self ..); omega
  | n + 1, l, hn, h => by
    have h1 := short_of_nodup n (l.filter fun x => x != n) (hn.filter _) (fun x hx => by
      simp at hx
      have := h x hx.1
      omega)
    have h2 : l.length ≤ (l.filter fun x => x != n).length + 1 := by
      clear h1 h
      induction l with
      | nil => simp
      | cons y l ih =>
        rw [List.nodup_cons] at hn
        by_cases e : y = n
        · subst e
          have h3 : l.filter (fun x => x != y) = l := by
            rw [List.filter_eq_self]
            intro z hz
            simp
            rintro rfl
            exact hn.1 hz
          simp [h3]
        · have := ih hn.2
          have h4 : (y != n) = true := by simp [e]
          rw [List.filter_cons, if_pos h4]
          simp only [List.length_cons]
          omega
    omega
theorem few_places {ps : List (Nat × Nat)} (hn : ps.Nodup) (h : ∀ p ∈ ps, p.1 < 16 ∧ p.2 < 16) : ps.length ≤ 256 := by
  have h1 : (ps.map fun p => 16 * p.1 + p.2).Nodup := by
    refine List.pairwise_map.2 (hn.imp_of_mem ?_)
    intro a b ha hb hne e
    apply hne
    have := h a ha
    have := h b hb
    exact Prod.ext (by omega) (by omega)
  have := short_of_nodup 256 _ h1 (fun x hx => by
    obtain ⟨p, hp, rfl⟩ := List.mem_map.1 hx
    have := h p hp
    omega)
  simpa using this
section
variable {w w' : World} {B side lv root : Nat} {nv lvv : Value} {ns : List (Nat → Nat)} {A : Nat → Nat → Nat → Nat} {ps : List (Nat × Nat)} {M : Nat → Nat → Bool}
theorem Qd.many (h : Qd w B side lv root nv lvv ns A ps M) : ps.length ≤ 256 ∧ ns.length ≤ 1024 := by
  have h1 := few_places h.tree.nodup h.small
  have h2 : lv * ps.length ≤ 4 * 256 := Nat.mul_le_mul h.lv4 h1
  have := h.few
  omega
/-- The blocks that a matrix takes up. -/
def Qf (B : Nat) (nv lvv : Value) (k : Nat) : Prop := k = B ∨ nv.ownBlock = some k ∨ lvv.ownBlock = some k
theorem Qc.lt (h : Qc w B side lv root nv lvv ns A ps M) : ∀ k, Qf B nv lvv k → k < w.heap.size := by
  rintro k (rfl | e | e)
  · exact h.box.lt
  · exact (h.nodes.lt k e).2
  · exact (h.leaves.lt k e).2
theorem Qc.kept {F : Nat → Prop} (h : Qc w B side lv root nv lvv ns A ps M) (hf : Far F w w') (hF : ∀ k, Qf B nv lvv k → ¬ F k) : Qc w' B side lv root nv lvv ns A ps M :=
  ⟨h.box.far' hf (hF B (.inl rfl)), row_same h.nodes fun k hk hl => hf.block k hl (hF k (.inr (.inl hk))), row_same h.leaves fun k hk hl => hf.block k hl (hF k (.inr (.inr hk))), h.tree, h.side1, h.side2, h.wide, h.lv4, h.within, h.bare, h.small, h.nfew⟩
theorem Qd.kept {F : Nat → Prop} (h : Qd w B side lv root nv lvv ns A ps M) (hf : Far F w w') (hF : ∀ k, Qf B nv lvv k → ¬ F k) : Qd w' B side lv root nv lvv ns A ps M := ⟨h.toQc.kept hf hF, h.few⟩
theorem Qd.still (h : Qd w B side lv root nv lvv ns A ps M) (hf : Far (fun _ => False) w w') : Qd w' B side lv root nv lvv ns A ps M := h.kept hf fun _ _ h => h
end
end Go.Proofs.YtoaeeojnelmlnaaDoor
