/-
  What stands while a leaf's way is made.
-/
import Derived.Test.YtoaeeojnelmlnaaDoorQFresh
namespace Go.Proofs.YtoaeeojnelmlnaaDoor
open Go.RowKit
set_option linter.unusedVariables false
set_option linter.unusedSimpArgs false
structure Gw (w wr : World) (B side lv : Nat) (nv lvv : Value) (ns0 : List (Nat → Nat)) (A0 : Nat → Nat → Nat → Nat) (ps0 : List (Nat × Nat)) (M : Nat → Nat → Bool) (i j l root : Nat) (nv' lvv' : Value) (ns : List (Nat → Nat)) (A : Nat → Nat → Nat → Nat) (ps : List (Nat × Nat)) : Prop where
  core : Qc wr B side lv root nv' lvv' ns A ps M
  there : A l (i / 2 ^ l) (j / 2 ^ l) ≠ 0
  far : Far (Qf B nv lvv) w wr
  own1 : ∀ k, nv'.ownBlock = some k → nv.ownBlock = some k ∨ w.heap.size ≤ k
  own2 : ∀ k, lvv'.ownBlock = some k → lvv.ownBlock = some k ∨ w.heap.size ≤ k
  kind : (ns = ns0 ∧ ps = ps0 ∧ A 0 i j = A0 0 i j) ∨ (1 ≤ l ∧ ns.length ≤ ns0.length + (lv - l + 1) ∧ ps = ps0 ∧ A 0 i j = 0 ∧ A0 0 i j = 0) ∨ (l = 0 ∧ ns.length ≤ ns0.length + lv ∧ ps = ps0 ++ [(i, j)] ∧ A0 0 i j = 0)
section
variable {w wr w1 : World} {B side lv : Nat} {nv lvv : Value} {ns0 : List (Nat → Nat)} {A0 : Nat → Nat → Nat → Nat} {ps0 : List (Nat × Nat)} {M : Nat → Nat → Bool} {i j l root : Nat} {nv' lvv' : Value} {ns : List (Nat → Nat)} {A : Nat → Nat → Nat → Nat} {ps : List (Nat × Nat)}
theorem Gw.down (g : Gw w wr B side lv nv lvv ns0 A0 ps0 M i j (l + 1) root nv' lvv' ns A ps) (hl : l + 1 ≤ lv) (h : A l (i / 2 ^ l) (j / 2 ^ l) ≠ 0) : Gw w wr B side lv nv lvv ns0 A0 ps0 M i j l root nv' lvv' ns A ps := by
  refine ⟨g.core, h, g.far, g.own1, g.own2, ?_⟩
  rcases g.kind with k | ⟨_, k2, k3, k4, k5⟩ | ⟨k, _⟩
  · exact .inl k
  · cases l with
    | zero => simp at h; exact absurd k4 h
    | succ l => exact .inr (.inl ⟨by omega, by omega, k3, k4, k5⟩)
  · omega
theorem Gw.still (g : Gw w wr B side lv nv lvv ns0 A0 ps0 M i j l root nv' lvv' ns A ps) (hf : Far (fun _ => False) wr w1) : Gw w w1 B side lv nv lvv ns0 A0 ps0 M i j l root nv' lvv' ns A ps :=
  ⟨g.core.kept hf (fun _ _ h => h), g.there, g.far.trans hf (fun _ _ h => h.elim), g.own1, g.own2, g.kind⟩
/-- What fresh leaves of the rest: a nodes' row that has grown. -/
theorem grown_foot (g : Gw w wr B side lv nv lvv ns0 A0 ps0 M i j l root nv' lvv' ns A ps) {v1 v' : Value} (hv : v' = nv' ∨ v' = lvv') (hsl : v1.ownBlock = v'.ownBlock ∨ ∃ g, v1.ownBlock = some g ∧ wr.heap.size ≤ g) :
    (∀ k, (k = B ∨ v'.ownBlock = some k) → k < w.heap.size → Qf B nv lvv k) ∧ (∀ k, v1.ownBlock = some k → v'.ownBlock = some k ∨ w.heap.size ≤ k) := by
  refine ⟨fun k hk hlt => ?_, fun k hk => ?_⟩
  · rcases hk with rfl | hk
    · exact .inl rfl
    · rcases hv with rfl | rfl
      · rcases g.own1 k hk with h | h
        · exact .inr (.inl h)
        · omega
      · rcases g.own2 k hk with h | h
        · exact .inr (.inr h)
        · omega
  · rcases hsl with h | ⟨q, h, hq⟩
    · exact .inl (h ▸ hk)
    · rw [h] at hk; cases hk
      exact .inr (Nat.le_trans g.far.size hq)
theorem far_upto {F G : Nat → Prop} {a b c : World} (h : Far F a b) (k : Far G b c) (hs : ∀ i, G i → i < a.heap.size → F i) : Far F a c := h.trans k fun i hi hg => hs i hg hi
theorem tree_nodes {ns : List (Nat → Nat)} {A : Nat → Nat → Nat → Nat} {ps : List (Nat × Nat)} {lv root : Nat} (h : Tree lv root ns A ps) {l a b : Nat} {f : Nat → Nat} (hn : A (l + 1) a b ≠ 0) (hf : ns[A (l + 1) a b - 1]? = some f) : A (l + 1) a b - 1 < ns.length := (List.getElem?_eq_some_iff.1 hf).1
/-- A node more on the way. -/
theorem Gw.node_step (g : Gw w wr B side lv nv lvv ns0 A0 ps0 M i j (l + 2) root nv' lvv' ns A ps) (hl : l + 2 ≤ lv) (h0 : A (l + 1) (i / 2 ^ (l + 1)) (j / 2 ^ (l + 1)) = 0) {g1 cap1 x : Nat} (hx : A (l + 2) (i / 2 ^ (l + 2)) (j / 2 ^ (l + 2)) = x)
    (hsmall : ns0.length ≤ 1024)
    (hB1 : Bk w1 B 111 #[.int .i64 (side : Nat), .int .i64 (lv : Nat), .int .i64 (root : Nat), .slice (some ⟨g1, 0, none⟩) (ns.length + 1) cap1, lvv'])
    (ho1 : w1.ownsRow 0 162 4 (.slice (some ⟨g1, 0, none⟩) (ns.length + 1) cap1) (ns.length + 1) ((nrows ns).flatten ++ [.int .i64 0, .int .i64 0, .int .i64 0, .int .i64 0]))
    (hsl : (Value.slice (some ⟨g1, 0, none⟩) (ns.length + 1) cap1).ownBlock = nv'.ownBlock ∨ ∃ g, (Value.slice (some ⟨g1, 0, none⟩) (ns.length + 1) cap1).ownBlock = some g ∧ wr.heap.size ≤ g) (hf1 : Far (fun k => k = B ∨ nv'.ownBlock = some k) wr w1) :
    ∃ ns2 A2, Gw w (w1.setCell ⟨g1, (x - 1) * 4 + qd i j (l + 1), none⟩ (.int .i64 ((ns.length + 1 : Nat) : Int))) B side lv nv lvv ns0 A0 ps0 M i j (l + 1) root (.slice (some ⟨g1, 0, none⟩) (ns.length + 1) cap1) lvv' ns2 A2 ps ∧ A2 (l + 1) (i / 2 ^ (l + 1)) (j / 2 ^ (l + 1)) = ns.length + 1 := by
  have T := g.core.tree
  have hx0 : x ≠ 0 := hx ▸ g.there
  have hup : A (l + 2) (i / 2 ^ (l + 1) / 2) (j / 2 ^ (l + 1) / 2) = x := by rw [← half, ← half]; exact hx
  obtain ⟨f, hf, _⟩ := T.step (i := i) (j := j) (l := l + 1) (by rw [hx]; exact hx0)
  have hf' : ns[A (l + 2) (i / 2 ^ (l + 1) / 2) (j / 2 ^ (l + 1) / 2) - 1]? = some f := by rw [hup, ← hx]; exact hf
  have T2 := T.more_node (a := i / 2 ^ (l + 1)) (b := j / 2 ^ (l + 1)) (f := f) (by omega) (by rw [hup]; exact hx0) h0 hf'
  rw [hup] at T2 hf'
  have hxl := (List.getElem?_eq_some_iff.1 hf').1
  have hq := qd_lt i j (l + 1)
  have eq : 2 * (i / 2 ^ (l + 1) % 2) + j / 2 ^ (l + 1) % 2 = qd i j (l + 1) := rfl
  rw [eq] at T2
  obtain ⟨ft1, ft2⟩ := grown_foot g (.inl rfl) hsl
  have hfw := far_upto g.far hf1 (fun k hk hlt => ft1 k hk hlt)
  have hgB : g1 ≠ B := fun e => q_row_ne hB1 ho1 (by decide) (by rw [e]; rfl)
  have hL1 : w1.ownsRow 0 97 64 lvv' ps.length (lrows M ps).flatten := row_same g.core.leaves fun k hk hlt => hf1.block k hlt (by
    rintro (e | e)
    · subst e; exact q_row_ne g.core.box g.core.leaves (by decide) hk
    · exact q_rows_ne g.core.leaves g.core.nodes (by decide) hk e)
  have hgL : lvv'.ownBlock ≠ some g1 := fun e => q_rows_ne hL1 ho1 (by decide) e rfl
  have ho2 := (ho1.stored ((x - 1) * 4 + qd i j (l + 1)) (.int .i64 ((ns.length + 1 : Nat) : Int))).1
  rw [← nrows_app, nrows_set (f := f) (by rw [List.getElem?_append_left hxl]; exact hf') hq] at ho2
  have hlen : ((ns ++ [fun _ => 0]).set (x - 1) (upd f (qd i j (l + 1)) (ns.length + 1))).length = ns.length + 1 := by simp
  refine ⟨_, _, ⟨⟨hB1.far (fun e => hgB e.symm) _, by rw [hlen]; exact ho2, hL1.kept (set_grown_q _ _ _) (.inr hgL), T2, g.core.side1, g.core.side2, g.core.wide, g.core.lv4, g.core.within, fun c d hne => g.core.bare c d (by rwa [put3_ne (by omega)] at hne), g.core.small, ?_⟩, ?_, ?_, ?_, g.own2, ?_⟩, put3_at ..⟩
  · rw [hlen]
    rcases g.kind with ⟨k, _⟩ | ⟨_, k, _⟩ | ⟨k, _⟩
    · subst k; omega
    · have := g.core.lv4; omega
    · omega
  · rw [put3_at]; omega
  · exact far_upto hfw ((Far.refl _ w1).set (F := fun k => k = g1) ⟨g1, _, none⟩ _ (fun _ => rfl)) (fun k hk hlt => by
      subst hk
      rcases ft2 k rfl with h | h
      · exact ft1 k (.inr h) hlt
      · omega)
  · intro k hk
    rcases ft2 k hk with h | h
    · exact g.own1 k h
    · exact .inr h
  · right; left
    have hz : put3 A (l + 1) (i / 2 ^ (l + 1)) (j / 2 ^ (l + 1)) (ns.length + 1) 0 i j = 0 := by
      rw [put3_ne (by omega)]
      exact T.none (by omega) h0
    rw [hlen, hz]
    rcases g.kind with ⟨k, k2, k3⟩ | ⟨_, k, k2, k3, k4⟩ | ⟨k, _⟩
    · refine ⟨by omega, by rw [k]; omega, k2, rfl, ?_⟩
      rw [← k3]; exact T.none (by omega) h0
    · exact ⟨by omega, by omega, k2, rfl, k4⟩
    · omega
theorem lrow_bare {M : Nat → Nat → Bool} {i j : Nat} (h : ∀ r c, r < 64 → c < 64 → M (64 * i + r) (64 * j + c) = false) : lrow M (i, j) = (Rw fun _ => 0).toList := by
  unfold lrow
  congr 1
  exact (Rw_blk Wf.zero fun r c hr hc => by simp [sub, h r c hr hc]).symm
/-- The leaf, at the way's end. -/
theorem Gw.leaf_step (g : Gw w wr B side lv nv lvv ns0 A0 ps0 M i j 1 root nv' lvv' ns A ps) (hl : 1 ≤ lv) (hij : i < 16 ∧ j < 16) (h0 : A 0 i j = 0) {gn capn x : Nat} (hnv : nv' = .slice (some ⟨gn, 0, none⟩) ns.length capn) (hx : A 1 (i / 2) (j / 2) = x) {lv1 : Value}
    (hsmall : ns0.length ≤ 1024)
    (hB1 : Bk w1 B 111 #[.int .i64 (side : Nat), .int .i64 (lv : Nat), .int .i64 (root : Nat), nv', lv1])
    (ho1 : w1.ownsRow 0 97 64 lv1 (ps.length + 1) ((lrows M ps).flatten ++ (Rw fun _ => 0).toList))
    (hsl : lv1.ownBlock = lvv'.ownBlock ∨ ∃ g, lv1.ownBlock = some g ∧ wr.heap.size ≤ g) (hf1 : Far (fun k => k = B ∨ lvv'.ownBlock = some k) wr w1) :
    ∃ ns2 A2, Gw w (w1.setCell ⟨gn, (x - 1) * 4 + qd i j 0, none⟩ (.int .i64 ((ps.length + 1 : Nat) : Int))) B side lv nv lvv ns0 A0 ps0 M i j 0 root nv' lv1 ns2 A2 (ps ++ [(i, j)]) ∧ A2 0 i j = ps.length + 1 := by
  have T := g.core.tree
  have hx0 : x ≠ 0 := by have := g.there; simp at this; rw [← hx]; exact this
  obtain ⟨f, hf, _⟩ := T.node 0 (i / 2) (j / 2) (by rw [hx]; exact hx0)
  have T2 := T.more_leaf (f := f) (by omega) (by rw [hx]; exact hx0) h0 hf
  rw [hx] at T2 hf
  have hxl := (List.getElem?_eq_some_iff.1 hf).1
  have hq := qd_lt i j 0
  have eq : 2 * (i % 2) + j % 2 = qd i j 0 := by simp [qd]
  rw [eq] at T2
  obtain ⟨ft1, ft2⟩ := grown_foot g (.inr rfl) hsl
  have hfw := far_upto g.far hf1 (fun k hk hlt => ft1 k hk hlt)
  have hN1 : w1.ownsRow 0 162 4 nv' ns.length (nrows ns).flatten := row_same g.core.nodes fun k hk hlt => hf1.block k hlt (by
    rintro (e | e)
    · subst e; exact q_row_ne g.core.box g.core.nodes (by decide) hk
    · exact q_rows_ne g.core.nodes g.core.leaves (by decide) hk e)
  subst hnv
  have hgB : gn ≠ B := fun e => q_row_ne hB1 hN1 (by decide) (by rw [e]; rfl)
  have hgL : lv1.ownBlock ≠ some gn := fun e => q_rows_ne ho1 hN1 (by decide) e rfl
  have ho2 := (hN1.stored ((x - 1) * 4 + qd i j 0) (.int .i64 ((ps.length + 1 : Nat) : Int))).1
  rw [nrows_set hf hq] at ho2
  have hlen : (ns.set (x - 1) (upd f (qd i j 0) (ps.length + 1))).length = ns.length := by simp
  have hbare := g.core.bare i j h0
  refine ⟨_, _, ⟨⟨hB1.far (fun e => hgB e.symm) _, by rw [hlen]; exact ho2, ?_, T2, g.core.side1, g.core.side2, g.core.wide, g.core.lv4, g.core.within, ?_, ?_, by rw [hlen]; exact g.core.nfew⟩, by simp [put3_at], ?_, g.own1, ?_, ?_⟩, put3_at ..⟩
  · rw [List.length_append, lrows_app, lrow_bare hbare]
    exact ho1.kept (set_grown_q _ _ _) (.inr hgL)
  · intro c d hz
    by_cases e : c = i ∧ d = j
    · obtain ⟨rfl, rfl⟩ := e; rw [put3_at] at hz; omega
    · rw [put3_ne (by intro h; exact e h.2)] at hz
      exact g.core.bare c d hz
  · intro p hp
    rcases List.mem_append.1 hp with hp | hp
    · exact g.core.small p hp
    · simp at hp; subst hp; exact hij
  · exact far_upto hfw ((Far.refl _ w1).set (F := fun k => k = gn) ⟨gn, _, none⟩ _ (fun _ => rfl)) (fun k hk hlt => by
      subst hk
      rcases g.own1 k rfl with h | h
      · exact .inr (.inl h)
      · omega)
  · intro k hk
    rcases ft2 k hk with h | h
    · exact g.own2 k h
    · exact .inr h
  · right; right
    rw [hlen]
    rcases g.kind with ⟨k, k2, k3⟩ | ⟨_, k, k2, k3, k4⟩ | ⟨k, _⟩
    · exact ⟨rfl, by rw [k]; omega, by rw [k2], by rw [← k3]; exact h0⟩
    · exact ⟨rfl, by omega, by rw [k2], k4⟩
    · omega
theorem Gw.start {root0 : Nat} (h : Qd w B side lv root0 nv lvv ns0 A0 ps0 M) (hi : i < 2 ^ lv) (hj : j < 2 ^ lv) (hr : root0 ≠ 0) : Gw w w B side lv nv lvv ns0 A0 ps0 M i j lv root0 nv lvv ns0 A0 ps0 :=
  ⟨h.toQc, by rw [(Nat.div_eq_zero_iff_lt (Nat.two_pow_pos _)).2 hi, (Nat.div_eq_zero_iff_lt (Nat.two_pow_pos _)).2 hj, h.tree.root]; exact hr, Far.refl _ w, fun _ h => .inl h, fun _ h => .inl h, .inl ⟨rfl, rfl, rfl⟩⟩
theorem Gw.root_node {l0 : Nat} {nv1 : Value} (h : Qd w B side (l0 + 1) 0 nv lvv ns0 A0 ps0 M) (hi : i < 2 ^ (l0 + 1)) (hj : j < 2 ^ (l0 + 1))
    (hB1 : Bk w1 B 111 #[.int .i64 (side : Nat), .int .i64 ((l0 + 1 : Nat) : Int), .int .i64 0, nv1, lvv])
    (ho1 : w1.ownsRow 0 162 4 nv1 (ns0.length + 1) ((nrows ns0).flatten ++ [.int .i64 0, .int .i64 0, .int .i64 0, .int .i64 0]))
    (hsl : nv1.ownBlock = nv.ownBlock ∨ ∃ g, nv1.ownBlock = some g ∧ w.heap.size ≤ g) (hf1 : Far (fun k => k = B ∨ nv.ownBlock = some k) w w1) :
    ∃ ns2 A2, Gw w (w1.setCell ⟨B, 2, none⟩ (.int .i64 ((ns0.length + 1 : Nat) : Int))) B side (l0 + 1) nv lvv ns0 A0 ps0 M i j (l0 + 1) (ns0.length + 1) nv1 lvv ns2 A2 ps0 := by
  have T := h.tree
  have T2 := T.root_node
  have hL1 : w1.ownsRow 0 97 64 lvv ps0.length (lrows M ps0).flatten := row_same h.leaves fun k hk hlt => hf1.block k hlt (by
    rintro (e | e)
    · subst e; exact q_row_ne h.box h.leaves (by decide) hk
    · exact q_rows_ne h.leaves h.nodes (by decide) hk e)
  rw [← nrows_app] at ho1
  have hlen : (ns0 ++ [fun _ => 0]).length = ns0.length + 1 := by simp
  have h0 : A0 0 i j = 0 := T.none (Nat.le_refl _) (by rw [(Nat.div_eq_zero_iff_lt (Nat.two_pow_pos _)).2 hi, (Nat.div_eq_zero_iff_lt (Nat.two_pow_pos _)).2 hj, T.root])
  refine ⟨_, _, ⟨hB1.set 2 _, by rw [hlen]; exact ho1.kept (set_grown_q _ _ _) (.inr (fun e => q_row_ne hB1 ho1 (by decide) e)), hL1.kept (set_grown_q _ _ _) (.inr (fun e => q_row_ne hB1 hL1 (by decide) e)), T2, h.side1, h.side2, h.wide, h.lv4, h.within, fun c d hne => h.bare c d (by rwa [put3_ne (by omega)] at hne), h.small, by rw [hlen]; have := h.many; omega⟩, ?_, ?_, ?_, fun _ h => .inl h, ?_⟩
  · rw [(Nat.div_eq_zero_iff_lt (Nat.two_pow_pos _)).2 hi, (Nat.div_eq_zero_iff_lt (Nat.two_pow_pos _)).2 hj, put3_at]; omega
  · exact far_upto (hf1.mono (G := Qf B nv lvv) (fun k _ hk => hk.elim .inl fun e => .inr (.inl e))) ((Far.refl _ w1).set (F := fun k => k = B) ⟨B, 2, none⟩ _ (fun _ => rfl)) (fun k hk _ => .inl hk)
  · intro k hk
    rcases hsl with e | ⟨q, e, hq⟩
    · exact .inl (e ▸ hk)
    · rw [e] at hk; cases hk; exact .inr hq
  · right; left
    exact ⟨by omega, by rw [hlen]; omega, rfl, by rw [put3_ne (by omega)]; exact h0, h0⟩
theorem Gw.root_leaf {lv1 : Value} (h : Qd w B side 0 0 nv lvv ns0 A0 ps0 M) (hi : i < 2 ^ 0) (hj : j < 2 ^ 0)
    (hB1 : Bk w1 B 111 #[.int .i64 (side : Nat), .int .i64 0, .int .i64 0, nv, lv1])
    (ho1 : w1.ownsRow 0 97 64 lv1 (ps0.length + 1) ((lrows M ps0).flatten ++ (Rw fun _ => 0).toList))
    (hsl : lv1.ownBlock = lvv.ownBlock ∨ ∃ g, lv1.ownBlock = some g ∧ w.heap.size ≤ g) (hf1 : Far (fun k => k = B ∨ lvv.ownBlock = some k) w w1) :
    ∃ ns2 A2, Gw w (w1.setCell ⟨B, 2, none⟩ (.int .i64 ((ps0.length + 1 : Nat) : Int))) B side 0 nv lvv ns0 A0 ps0 M i j 0 (ps0.length + 1) nv lv1 ns2 A2 (ps0 ++ [(i, j)]) := by
  obtain rfl : i = 0 := by simpa using hi
  obtain rfl : j = 0 := by simpa using hj
  have T := h.tree
  have T2 := T.root_leaf
  have h0 : A0 0 0 0 = 0 := T.root
  have hN1 : w1.ownsRow 0 162 4 nv ns0.length (nrows ns0).flatten := row_same h.nodes fun k hk hlt => hf1.block k hlt (by
    rintro (e | e)
    · subst e; exact q_row_ne h.box h.nodes (by decide) hk
    · exact q_rows_ne h.nodes h.leaves (by decide) hk e)
  have hbare := h.bare 0 0 h0
  refine ⟨_, _, ⟨hB1.set 2 _, hN1.kept (set_grown_q _ _ _) (.inr (fun e => q_row_ne hB1 hN1 (by decide) e)), ?_, T2, h.side1, h.side2, h.wide, h.lv4, h.within, ?_, ?_, h.nfew⟩, by simp [put3_at], ?_, fun _ h => .inl h, ?_, ?_⟩
  · rw [List.length_append, lrows_app, lrow_bare hbare]
    exact ho1.kept (set_grown_q _ _ _) (.inr (fun e => q_row_ne hB1 ho1 (by decide) e))
  · intro c d hz
    by_cases e : c = 0 ∧ d = 0
    · obtain ⟨rfl, rfl⟩ := e; rw [put3_at] at hz; omega
    · rw [put3_ne (by intro h; exact e h.2)] at hz
      exact h.bare c d hz
  · intro p hp
    rcases List.mem_append.1 hp with hp | hp
    · exact h.small p hp
    · simp at hp; subst hp; exact ⟨by decide, by decide⟩
  · exact far_upto (hf1.mono (G := Qf B nv lvv) (fun k _ hk => hk.elim .inl fun e => .inr (.inr e))) ((Far.refl _ w1).set (F := fun k => k = B) ⟨B, 2, none⟩ _ (fun _ => rfl)) (fun k hk _ => .inl hk)
  · intro k hk
    rcases hsl with e | ⟨q, e, hq⟩
    · exact .inl (e ▸ hk)
    · rw [e] at hk; cases hk; exact .inr hq
  · right; right
    exact ⟨rfl, by omega, rfl, h0⟩
/-- At the way's end. -/
theorem Gw.done {root0 : Nat} (h : Qd w B side lv root0 nv lvv ns0 A0 ps0 M) (g : Gw w wr B side lv nv lvv ns0 A0 ps0 M i j 0 root nv' lvv' ns A ps) :
    A 0 i j ≠ 0 ∧ Qd wr B side lv root nv' lvv' ns A ps M ∧ (∀ k, Qf B nv' lvv' k → Qf B nv lvv k ∨ w.heap.size ≤ k) ∧ Far (Qf B nv lvv) w wr ∧ (ps = ps0 ∨ (ps = ps0 ++ [(i, j)] ∧ A0 0 i j = 0)) := by
  have ht : A 0 i j ≠ 0 := by simpa using g.there
  refine ⟨ht, ⟨g.core, ?_⟩, ?_, g.far, ?_⟩
  · have hf := h.few
    rcases g.kind with ⟨k, k2, _⟩ | ⟨k, _⟩ | ⟨_, k, k2, _⟩
    · rw [k, k2]; exact hf
    · omega
    · rw [k2, List.length_append, List.length_singleton, Nat.mul_succ]; omega
  · rintro k (e | e | e)
    · exact .inl (.inl e)
    · exact (g.own1 k e).imp (fun h => .inr (.inl h)) id
    · exact (g.own2 k e).imp (fun h => .inr (.inr h)) id
  · rcases g.kind with ⟨_, k2, _⟩ | ⟨k, _⟩ | ⟨_, _, k2, k3⟩
    · exact .inl k2
    · omega
    · exact .inr ⟨k2, k3⟩
end
end Go.Proofs.YtoaeeojnelmlnaaDoor
