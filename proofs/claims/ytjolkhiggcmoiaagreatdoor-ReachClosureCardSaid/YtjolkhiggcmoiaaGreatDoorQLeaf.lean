/-
  QLeaf: QSpot, QSpots, QRemade.
-/
import Derived.Test.YtjolkhiggcmoiaaGreatDoorQPutX
/-! ## QSpot: A leaf with its place, as a value. -/
namespace Go.Proofs.YtjolkhiggcmoiaaGreatDoor
open Go.RowKit
set_option linter.unusedVariables false
set_option linter.unusedSimpArgs false
theorem fold_cells (off : Nat) (X cs : Array Value) : (X.zipIdx.foldl (fun cs (x : Value × Nat) => cs.setIfInBounds (off + x.2) x.1) cs).size = cs.size ∧
    ∀ k : Nat, (X.zipIdx.foldl (fun cs (x : Value × Nat) => cs.setIfInBounds (off + x.2) x.1) cs)[k]? = if off ≤ k ∧ k < off + X.size ∧ k < cs.size then X[k - off]? else cs[k]? := by
  have := Great.foldl_set off X.toList 0 cs
  rw [← Array.foldl_toList, Array.toList_zipIdx]
  simpa using this
theorem fill_two (place : Nat → Option (Nat × Nat)) (cs X Y : Array Value) (n m : Nat) (hX : X.size = n) (hY : Y.size = m) (hc : cs.size = n + m) (h0 : place 0 = some (0, n)) (h1 : place 1 = some (n, m)) :
    Instr.fill place cs [(0, Value.agg X), (1, Value.agg Y)] = some (X ++ Y) := by
  have e1 : (Value.agg X).cells = X := rfl
  have e2 : (Value.agg Y).cells = Y := rfl
  obtain ⟨s1, g1⟩ := fold_cells 0 X cs
  obtain ⟨s2, g2⟩ := fold_cells n Y (X.zipIdx.foldl (fun cs (x : Value × Nat) => cs.setIfInBounds (0 + x.2) x.1) cs)
  unfold Instr.fill
  simp only [h0, e1, hX]
  rw [if_neg (by simp; omega)]
  unfold Instr.fill
  simp only [h1, e2, hY]
  rw [if_neg (by have := s1; simp at this ⊢; rw [this]; omega)]
  unfold Instr.fill
  congr 1
  apply Array.ext_getElem?
  intro k
  have g2' := g2 k
  have g1' := g1 k
  rw [g2', g1', s1]
  rw [Array.getElem?_append]
  by_cases hk : k < n
  · rw [if_neg (by omega), if_pos (by omega), if_pos (by omega)]; simp
  · rw [if_neg (show ¬ k < X.size by omega)]
    by_cases hk2 : k < n + m
    · rw [if_pos (by omega), hX]
    · rw [if_neg (by omega), if_neg (by omega), Array.getElem?_eq_none (by omega), Array.getElem?_eq_none (by omega)]
/-- The cells of a leaf with its place. -/
def spt (i j : Nat) (f : Nat → Nat) : Array Value := #[.int .i64 (i : Nat), .int .i64 (j : Nat)] ++ Rw f
theorem spt_size (i j : Nat) (f : Nat → Nat) : (spt i j f).size = 66 := by simp [spt, Rw_size]
theorem spt_one (i j : Nat) (f : Nat → Nat) : (spt i j f).all (·.oneCell') = true := by
  rw [Array.all_eq_true_iff_forall_mem]
  intro v hv
  rcases Array.mem_append.1 hv with hv | hv
  · simp at hv; rcases hv with rfl | rfl <;> rfl
  · exact (Array.all_eq_true_iff_forall_mem.1 (Rw_one f)) v hv
theorem spot_places : (match Tryz.prog.info? 131, Tryz.prog.underlying 131 with
  | some it, some (.struct fields) => (match it.zero, fields.toList.mapM (fun f => (Tryz.prog.info? f.type).map fun i => (f.offset, i.size)) with
      | some z, some places => some (z.cells.size, places) | _, _ => none)
  | _, _ => none) = some (66, [(0, 2), (2, 64)]) := by kernel_rfl
theorem spot_built (i j : Nat) (f : Nat → Nat) : Tryz.prog.built 131 [(0, .agg #[.int .i64 (i : Nat), .int .i64 (j : Nat)]), (1, .agg (Rw f))] = some (spt i j f) := by
  have h := spot_places
  unfold Program.built
  cases h1 : Tryz.prog.info? 131 with
  | none => rw [h1] at h; cases h
  | some it =>
    rw [h1] at h
    cases h2 : Tryz.prog.underlying 131 with
    | none => rw [h2] at h; cases h
    | some d =>
      rw [h2] at h
      cases d with
      | struct fields =>
        simp only at h ⊢
        cases h3 : it.zero with
        | none => rw [h3] at h; cases h
        | some z =>
          rw [h3] at h
          cases h4 : fields.toList.mapM (fun f => (Tryz.prog.info? f.type).map fun i => (f.offset, i.size)) with
          | none => rw [h4] at h; cases h
          | some places =>
            rw [h4] at h
            simp only [Option.some.injEq, Prod.mk.injEq] at h ⊢
            obtain ⟨hs, rfl⟩ := h
            exact fill_two _ _ _ _ 2 64 rfl (Rw_size f) hs rfl rfl
      | _ => cases h
end Go.Proofs.YtjolkhiggcmoiaaGreatDoor
/-! ## QSpots: spots: all leaves, rising by their places. -/
namespace Go.Proofs.YtjolkhiggcmoiaaGreatDoor
open Go.RowKit
set_option linter.unusedVariables false
set_option linter.unusedSimpArgs false
/-- Has a block a cell? -/
def nzB (M : Nat → Nat → Bool) (i j : Nat) : Bool := (List.range 64).any fun r => (List.range 64).any fun c => sub M i j r c
theorem nzB_iff {M : Nat → Nat → Bool} {i j : Nat} : nzB M i j = true ↔ ∃ r c, r < 64 ∧ c < 64 ∧ sub M i j r c = true := by
  unfold nzB
  simp only [List.any_eq_true, List.mem_range]
  constructor
  · rintro ⟨r, hr, c, hc, h⟩; exact ⟨r, c, hr, hc, h⟩
  · rintro ⟨r, c, hr, hc, h⟩; exact ⟨r, hr, c, hc, h⟩
/-- The places of a row of blocks, from the first k on. -/
def rowL (M : Nat → Nat → Bool) (i k : Nat) : List (Nat × Nat) := (List.range k).filterMap fun j => if nzB M i j then some (i, j) else none
def gridL (M : Nat → Nat → Bool) (n k : Nat) : List (Nat × Nat) := (List.range k).flatMap fun i => rowL M i n
/-- The places of a matrix's leaves, rising. -/
def placesL (M : Nat → Nat → Bool) (side : Nat) : List (Nat × Nat) := gridL M (lns side) (lns side)
theorem rowL_succ (M : Nat → Nat → Bool) (i k : Nat) : rowL M i (k + 1) = rowL M i k ++ (if nzB M i k then [(i, k)] else []) := by
  unfold rowL
  rw [List.range_succ, List.filterMap_append]
  congr 1
  cases h : nzB M i k <;> simp [h]
theorem gridL_succ (M : Nat → Nat → Bool) (n k : Nat) : gridL M n (k + 1) = gridL M n k ++ rowL M k n := by
  unfold gridL
  rw [List.range_succ, List.flatMap_append]
  simp
theorem mem_rowL {M : Nat → Nat → Bool} {i k : Nat} {p : Nat × Nat} : p ∈ rowL M i k ↔ p.1 = i ∧ p.2 < k ∧ nzB M p.1 p.2 = true := by
  unfold rowL
  rw [List.mem_filterMap]
  constructor
  · rintro ⟨j, hj, h⟩
    cases hb : nzB M i j <;> rw [hb] at h <;> simp at h
    subst h
    exact ⟨rfl, List.mem_range.1 hj, hb⟩
  · rintro ⟨rfl, h2, h3⟩
    exact ⟨p.2, List.mem_range.2 h2, by rw [h3]; rfl⟩
theorem mem_gridL {M : Nat → Nat → Bool} {n k : Nat} {p : Nat × Nat} : p ∈ gridL M n k ↔ p.1 < k ∧ p.2 < n ∧ nzB M p.1 p.2 = true := by
  unfold gridL
  rw [List.mem_flatMap]
  constructor
  · rintro ⟨i, hi, h⟩
    obtain ⟨rfl, h2, h3⟩ := mem_rowL.1 h
    exact ⟨List.mem_range.1 hi, h2, h3⟩
  · rintro ⟨h1, h2, h3⟩
    exact ⟨p.1, List.mem_range.2 h1, mem_rowL.2 ⟨rfl, h2, h3⟩⟩
theorem rowL_nodup (M : Nat → Nat → Bool) (i : Nat) : ∀ k, (rowL M i k).Nodup
  | 0 => by simp [rowL]
  | k + 1 => by
    rw [rowL_succ, List.nodup_append]
    refine ⟨rowL_nodup M i k, by split <;> simp, fun x hx y hy => ?_⟩
    split at hy
    · simp at hy; subst hy
      intro e; subst e
      have := (mem_rowL.1 hx).2.1
      simp at this
    · cases hy
theorem gridL_nodup (M : Nat → Nat → Bool) (n : Nat) : ∀ k, (gridL M n k).Nodup
  | 0 => by simp [gridL]
  | k + 1 => by
    rw [gridL_succ, List.nodup_append]
    refine ⟨gridL_nodup M n k, rowL_nodup M k n, fun x hx y hy e => ?_⟩
    subst e
    have := (mem_gridL.1 hx).1
    have := (mem_rowL.1 hy).1
    omega
theorem placesL_nodup (M : Nat → Nat → Bool) (side : Nat) : (placesL M side).Nodup := gridL_nodup M _ _
theorem mem_placesL {M : Nat → Nat → Bool} {side : Nat} {p : Nat × Nat} : p ∈ placesL M side ↔ p.1 < lns side ∧ p.2 < lns side ∧ nzB M p.1 p.2 = true := mem_gridL
/-- The cells of a list of leaves. -/
def srow (M : Nat → Nat → Bool) (p : Nat × Nat) : List Value := (spt p.1 p.2 (blk (sub M p.1 p.2))).toList
def srows (M : Nat → Nat → Bool) (l : List (Nat × Nat)) : List (List Value) := l.map (srow M)
theorem srow_len (M : Nat → Nat → Bool) (p : Nat × Nat) : (srow M p).length = 66 := by simp [srow, spt_size]
theorem srows_even (M : Nat → Nat → Bool) (l : List (Nat × Nat)) : Even 66 (srows M l) := fun x hx => by
  simp only [srows, List.mem_map] at hx
  obtain ⟨p, _, rfl⟩ := hx
  exact srow_len M p
theorem srows_get {M : Nat → Nat → Bool} {l : List (Nat × Nat)} {k : Nat} {p : Nat × Nat} (h : l[k]? = some p) : (srows M l)[k]? = some (srow M p) := by simp [srows, h]
theorem srows_app (M : Nat → Nat → Bool) (l : List (Nat × Nat)) (p : Nat × Nat) : (srows M (l ++ [p])).flatten = (srows M l).flatten ++ srow M p := by simp [srows]
theorem srow_one (M : Nat → Nat → Bool) (p : Nat × Nat) : ∀ u ∈ srow M p, u.oneCell' = true := fun u hu => (Array.all_eq_true_iff_forall_mem.1 (spt_one p.1 p.2 (blk (sub M p.1 p.2)))) u (by simpa [srow] using hu)
theorem spot_info : (Tryz.prog.info? 131).map (fun i => (i.zero, i.size, i.bytes)) = some (some (.agg (spt 0 0 fun _ => 0)), 66, 528) := by kernel_rfl
section
variable {w w' : World} {B side lv root : Nat} {nv lvv : Value} {ns : List (Nat → Nat)} {A : Nat → Nat → Nat → Nat} {ps : List (Nat × Nat)} {F : Nat → Prop} {M : Nat → Nat → Bool}
theorem Qd.leaf_iff (h : Qd w B side lv root nv lvv ns A ps M) (hf : Full M ps) (i j : Nat) : A 0 i j ≠ 0 ↔ nzB M i j = true := by
  rw [nzB_iff]
  constructor
  · intro hn
    exact hf _ (List.mem_of_getElem? (h.tree.leaf i j hn))
  · rintro ⟨r, c, hr, hc, e⟩ hz
    unfold sub at e
    rw [h.bare i j hz r c hr hc] at e
    cases e
/-- There are as many leaves as places with a cell. -/
theorem Qd.count (h : Qd w B side lv root nv lvv ns A ps M) (hf : Full M ps) : ps.Perm (placesL M side) := by
  refine (List.perm_ext_iff_of_nodup h.tree.nodup (placesL_nodup M side)).2 fun p => ?_
  rw [mem_placesL]
  constructor
  · intro hp
    obtain ⟨k, hk⟩ := List.getElem?_of_mem hp
    obtain ⟨r, c, hr, hc, e⟩ := hf p hp
    have hw := h.within _ _ e
    unfold lns
    exact ⟨by omega, by omega, nzB_iff.2 ⟨r, c, hr, hc, e⟩⟩
  · rintro ⟨h1, h2, h3⟩
    exact List.mem_of_getElem? (h.tree.leaf p.1 p.2 ((h.leaf_iff hf _ _).2 h3))
theorem rowL_len (M : Nat → Nat → Bool) (i k : Nat) : (rowL M i k).length ≤ k := by
  unfold rowL
  have := List.length_filterMap_le (f := fun j => if nzB M i j then some (i, j) else none) (l := List.range k)
  simpa using this
theorem gridL_len (M : Nat → Nat → Bool) (n : Nat) : ∀ k, (gridL M n k).length ≤ k * n
  | 0 => by simp [gridL]
  | k + 1 => by
    rw [gridL_succ, List.length_append, Nat.succ_mul]
    have := gridL_len M n k
    have := rowL_len M k n
    omega
theorem spots_few {M : Nat → Nat → Bool} {n k j : Nat} (hn : n ≤ 16) (hk : k < n) (hj : j < n) : (gridL M n k ++ rowL M k j).length ≤ 65536 := by
  rw [List.length_append]
  have := gridL_len M n k
  have := rowL_len M k j
  have : k * n ≤ 16 * 16 := Nat.mul_le_mul (by omega) hn
  omega
theorem wpList_spot {ops : Array Oper} {rest : List Oper} {o : Oper} {a : Act} {w : World} {Q : Exit → Act → World → Prop} (hgd : o.guard = none) (x y : Operand) (ho : o.op = .build 131 #[(0, x), (1, y)]) (i j : Nat) (f : Nat → Nat)
    (hx : a.eval x = .agg #[.int .i64 (i : Nat), .int .i64 (j : Nat)]) (hy : a.eval y = .agg (Rw f)) (h : wpList Tryz.prog ops Q rest (a.put o.dst (.agg (spt i j f))) w) : wpList Tryz.prog ops Q (o :: rest) a w := by
  have e : Tryz.prog.built 131 ((#[(0, x), (1, y)] : Array (Nat × Operand)).map fun (i, x) => (i, a.eval x)).toList = some (spt i j f) := by
    simp only [List.map_toArray, List.map_cons, List.map_nil, hx, hy]
    exact spot_built i j f
  exact wpList_build hgd 131 _ ho (by rw [e]; rfl) (by rw [e]; exact h)
section
set_option maxHeartbeats 4000000
set_option maxRecDepth 100000
theorem qspots_any (h : Mx w B F side M) :
    Calls Tryz.prog 72 #[.pointer (some ⟨B, 0, none⟩)] w fun e w' => ∃ v, e = .returned v ∧ w'.ownsRow w.heap.size 131 66 v (placesL M side).length (srows M (placesL M side)).flatten ∧ Far (fun _ => False) w w' := by
  obtain ⟨lv, root, nv, lvv, ns, A, ps, hq, hfull, rfl⟩ := h
  have hw := hq.wide
  have hs2 := lns_le hq.side2
  have hlf := hq.leaf_iff hfull
  have hmany := hq.many
  have N := qnone_no hq
  have L := fun W (h9 : Far (fun _ => False) w W) => qlines_any (hq.still h9)
  have FI := fun W (h9 : Far (fun _ => False) w W) a b (ha : a < lns side) (hb : b < lns side) => find_any (hq.still h9) a b (lns_lt hw ha) (lns_lt hw hb)
  have p4 : w.cell? ⟨B, 4, none⟩ = some lvv := hq.box.cell 4
  obtain ⟨ao, cap, hsl⟩ := q_form hq.leaves
  subst hsl
  have hq' := Lib.hid hq
  have hlf' := Lib.hid hlf
  obtain ⟨ti, hi, hz0, hz1, hz2⟩ := info_parts spot_info
  obtain ⟨n, hn⟩ : ∃ n, lns side = n := ⟨_, rfl⟩
  rw [hn] at L hs2 FI
  have hn' := Lib.hid hn
  clear hq hlf hfull hn
  go_enter Tryz.func72, Tryz.ntmps72
  go_wp2_with fail
  refine N.mono ?_
  rintro e w' ⟨rfl, rfl⟩
  go_wp2_with (refine wpList_make_own w rfl _ _ 124 rfl w.heap.size 131 ti _ 66 Tryz.underlying124 hi hz0 hz1 .i64 .i64 _ ps.length rfl rfl rfl (by rw [hz2]; omega) (by unfold maxLen; omega) (Nat.le_refl _) ?_; intro w1 ho1 hg1; have ho1' := Lib.hid ho1; have hg1' := Lib.hid hg1; clear ho1 hg1)
  have hf1 : Far (fun _ => False) w w1 := (Far.refl _ w).grown hg1'.out (fun _ _ e => by cases e)
  refine (L _ hf1).mono ?_
  rintro e w' ⟨rfl, rfl⟩
  have hf1' := Lib.hid hf1
  clear hf1
  go_wp2_with fail
  go_loopw [3, 17] (fun lv iv wr => ∃ k : Nat, k ≤ n ∧ iv = .int .i64 (k : Nat) ∧ wr.ownsRow w.heap.size 131 66 lv (gridL M n k).length (srows M (gridL M n k)).flatten ∧ Far (fun _ => False) w wr) (fun _ iv _ => n - (intOf iv).toNat)
  case atStart => exact ⟨0, Nat.zero_le _, rfl, ho1'.out, hf1'.out⟩
  case round =>
    obtain ⟨k, hk, rfl, ho, hf⟩ := hrel
    by_cases hlt : k < n
    · have d1 : (k : Int) < (n : Int) := by omega
      have hf' := Lib.hid hf
      have ho' := Lib.hid ho
      have L1 := L _ hf
      clear ho hf ho1' hf1' hg1'
      obtain ⟨wo, hwo⟩ : ∃ wo, wo = wr := ⟨_, rfl⟩
      rw [← hwo] at hf' ho' L1 ⊢
      clear hwo
      go_wp2_with fail
      refine L1.mono ?_
      rintro e w' ⟨rfl, rfl⟩
      clear L1
      go_wp2_with fail
      go_loopw [3, 22] (fun lv jv wr => ∃ j : Nat, j ≤ n ∧ jv = .int .i64 (j : Nat) ∧ wr.ownsRow w.heap.size 131 66 lv (gridL M n k ++ rowL M k j).length (srows M (gridL M n k ++ rowL M k j)).flatten ∧ Far (fun _ => False) w wr) (fun _ jv _ => n - (intOf jv).toNat)
      case atStart => exact ⟨0, Nat.zero_le _, rfl, by simpa [rowL] using ho'.out, hf'.out⟩
      case round =>
        clear ho' hf'
        obtain ⟨j, hj, rfl, ho, hf⟩ := hrel
        by_cases hjt : j < n
        · have d2 : (j : Int) < (n : Int) := by omega
          have F1 := FI _ hf k j hlt hjt
          have hf' := Lib.hid hf
          have ho' := Lib.hid ho
          clear ho hf
          obtain ⟨wi, hwi⟩ : ∃ wi, wi = wr := ⟨_, rfl⟩
          rw [← hwi] at hf' ho' F1 ⊢
          clear hwi
          go_wp2_with fail
          refine F1.mono ?_
          rintro e w2 ⟨rfl, hf2⟩
          have hf3 := hf'.out.then hf2
          have hq2 := hq'.out.still hf3
          have hf3' := Lib.hid hf3
          have ho2 := row_same ho'.out fun g hg hlt => hf2.block g hlt id
          clear F1 hf'
          by_cases hz : A 0 k j = 0
          · have hnz : nzB M k j = false := by
              cases hb : nzB M k j
              · rfl
              · exact absurd hz ((hlf'.out k j).2 hb)
            have ho4 := Lib.hid ho2
            have hnz' := Lib.hid hnz
            rw [hz]
            clear ho' ho2 hq2 hf2 hf3
            go_wp2_with fail
            go_roundw
            case rel => exact ⟨j + 1, by omega, by simp, by rw [rowL_succ, hnz'.out]; simpa using ho4.out, hf3'.out⟩
            case measure => simp [intOf]; omega
          · obtain ⟨g, cp, hlv, hl1, _, _, hr, _⟩ := hq2.leafAt hz
            have p4' : w2.cell? ⟨B, 4, none⟩ = some (.slice (some ⟨g, 0, none⟩) ps.length cp) := hlv ▸ hq2.box.cell 4
            have hnz := Lib.hid ((hlf'.out k j).1 hz)
            obtain ⟨m, hm⟩ : ∃ m, A 0 k j = m := ⟨_, rfl⟩
            rw [hm] at hl1 hz hr ⊢
            have hm0 : ((m : Int) != 0) = true := by simp; omega
            have hx1 : IntKind.i64.wrap ((m : Int) - 1) = ((m - 1 : Nat) : Int) := by rw [IntKind.wrap_i64]; omega
            have hr' : w2.rangeAt g ((m - 1) * 64) (Rw (blk (sub M k j))).toList := hr
            obtain ⟨qo, qc, rfl⟩ := q_form ho2
            obtain ⟨s, hs⟩ : ∃ s, (gridL M n k ++ rowL M k j).length = s := ⟨_, rfl⟩
            have hsl : s ≤ 65536 := by rw [← hs]; exact spots_few hs2 hlt hjt
            have hs' := Lib.hid hs
            rw [hs] at ho2 ⊢
            have A1 := Lib.hid (ho2.alloc (.cells (spt k j (blk (sub M k j))) 131))
            have A2 := Lib.hid (World.news_of_block (w := w2.alloc (.cells (spt k j (blk (sub M k j))) 131)) (cs := spt k j (blk (sub M k j))) (t := 131) (fr := (0, 0)) (heap_alloc_new w2 _))
            have A3 : ∀ u ∈ (spt k j (blk (sub M k j))).toList, u.oneCell' = true := fun u hu => (Array.all_eq_true_iff_forall_mem.1 (spt_one _ _ _)) u (by simpa using hu)
            have A4 : s + 1 ≤ maxLen := by unfold maxLen; omega
            have A5 : (s + 1) * 528 ≤ 140737488355328 := by omega
            have A6 : (spt k j (blk (sub M k j))).toList.length = 1 * 66 := by simp [spt_size]
            have A7 : w.heap.size ≤ (w2.alloc (.cells (spt k j (blk (sub M k j))) 131)).heap.size := by have := hf3.size; simp; omega
            have A8 : (Value.agg (spt 0 0 fun _ => 0)).cells.size = 66 := spt_size _ _ _
            have ho2' := Lib.hid ho2
            clear ho' ho2 hq2 hf2 hf3 hr hs hlv
            go_wp2_with (first | (refine wpList_lf rfl _ rfl _ _ rfl hr' ?_) | (refine wpList_spot rfl _ _ rfl k j _ rfl rfl ?_) | (refine wpList_mk1 rfl _ 131 _ rfl (spt k j (blk (sub M k j))) 66 rfl (spt_size _ _ _) ti _ Tryz.underlying124 hi hz0 hz1 (by decide) (by decide) ?_) | (at_builtin; refine wpList_append_lies _ rfl _ _ 124 rfl w.heap.size 131 ti _ 66 528 Tryz.underlying124 hi hz0 hz1 hz2 A8 (by decide) (.slice qo s qc) s _ rfl A1.out ⟨w2.heap.size, 0, none⟩ 1 1 (spt k j (blk (sub M k j))).toList rfl A6 A2.out A3 (by decide) A4 A5 A7 _ rfl ?_; intro fg fc w4 ho4 hg4 hat4 hl4; have ho4' := Lib.hid ho4; have hg4' := Lib.hid hg4; clear ho4 hg4 hat4))
            go_roundw
            case rel =>
              refine ⟨j + 1, by omega, by simp, ?_, hf3'.out.trans ((Far.refl (fun k => (Value.slice qo s qc).ownBlock = some k) w2).alloc _ |>.grown hg4'.out fun k _ e => e) fun k hk e => by have := (ho2'.out.lt k e).1; omega⟩
              rw [rowL_succ, hnz.out, if_pos rfl, ← List.append_assoc, srows_app, List.length_append, List.length_singleton, hs'.out]
              exact ho4'.out
            case measure => simp [intOf]; omega
        · have e : j = n := by omega
          subst e
          have ho5 := Lib.hid ho
          have hf5 := Lib.hid hf
          clear ho hf
          go_wp2_with fail
          go_roundw
          case rel => exact ⟨k + 1, by omega, by simp, by rw [gridL_succ]; exact ho5.out, hf5.out⟩
          case measure => simp [intOf]; omega
    · have e : k = n := by omega
      subst e
      go_wp2_with fail
      go_ret
      have hnn := hn'.out
      subst hnn
      exact ⟨_, rfl, ho, hf⟩
end
end
end Go.Proofs.YtjolkhiggcmoiaaGreatDoor
/-! ## QRemade: remade: another matrix, of each leaf what a function says. -/
namespace Go.Proofs.YtjolkhiggcmoiaaGreatDoor
open Go.RowKit
set_option linter.unusedVariables false
set_option linter.unusedSimpArgs false
/-- The cells that come of leaves put one by one. -/
def foldP (tp : Nat × Nat → Nat × Nat) (ct : Nat × Nat → Nat → Nat) : List (Nat × Nat) → Nat → Nat → Bool
  | [] => fun _ _ => false
  | p :: l => fun r c => foldP tp ct l r c || (decide (r / 64 = (tp p).1) && decide (c / 64 = (tp p).2) && bt (ct p) (r % 64) (c % 64))
theorem foldP_iff {tp : Nat × Nat → Nat × Nat} {ct : Nat × Nat → Nat → Nat} {r c : Nat} : ∀ {l : List (Nat × Nat)}, foldP tp ct l r c = true ↔ ∃ p ∈ l, r / 64 = (tp p).1 ∧ c / 64 = (tp p).2 ∧ bt (ct p) (r % 64) (c % 64) = true
  | [] => by simp [foldP]
  | p :: l => by
    have ih := foldP_iff (tp := tp) (ct := ct) (r := r) (c := c) (l := l)
    simp only [foldP, Bool.or_eq_true, Bool.and_eq_true, decide_eq_true_eq, ih, List.mem_cons]
    constructor
    · rintro (⟨q, hq, h⟩ | ⟨⟨h1, h2⟩, h3⟩)
      · exact ⟨q, .inr hq, h⟩
      · exact ⟨p, .inl rfl, h1, h2, h3⟩
    · rintro ⟨q, rfl | hq, h1, h2, h3⟩
      · exact .inr ⟨⟨h1, h2⟩, h3⟩
      · exact .inl ⟨q, hq, h1, h2, h3⟩
theorem foldP_app (tp : Nat × Nat → Nat × Nat) (ct : Nat × Nat → Nat → Nat) (l : List (Nat × Nat)) (p : Nat × Nat) : ∀ r c, orM (foldP tp ct l) (tp p).1 (tp p).2 (ct p) r c = foldP tp ct (l ++ [p]) r c := fun r c => by
  rw [Bool.eq_iff_iff, foldP_iff]
  unfold orM
  simp only [Bool.or_eq_true, Bool.and_eq_true, decide_eq_true_eq, foldP_iff, List.mem_append, List.mem_singleton]
  constructor
  · rintro (⟨q, hq, h⟩ | ⟨⟨h1, h2⟩, h3⟩)
    · exact ⟨q, .inl hq, h⟩
    · exact ⟨p, .inr rfl, h1, h2, h3⟩
  · rintro ⟨q, hq | rfl, h1, h2, h3⟩
    · exact .inl ⟨q, hq, h1, h2, h3⟩
    · exact .inr ⟨⟨h1, h2⟩, h3⟩
theorem placesL_few (M : Nat → Nat → Bool) {side : Nat} (h : side ≤ 1024) : (placesL M side).length ≤ 256 := by
  have h1 := gridL_len M (lns side) (lns side)
  have h2 := lns_le h
  have h3 : lns side * lns side ≤ 16 * 16 := Nat.mul_le_mul h2 h2
  unfold placesL; omega
theorem spotSize : (Tryz.prog.info? 131).map (·.size) = some 66 := by kernel_rfl
theorem spotZero : (Tryz.prog.info? 131).map (fun i => (i.zero, i.size)) = some (some (.agg (spt 0 0 fun _ => 0)), 66) := by kernel_rfl
theorem sp_range {w : World} {g o i j : Nat} {f : Nat → Nat} (h : w.rangeAt g o (spt i j f).toList) : (loadVar 131 ⟨g, o, none⟩).run Tryz.prog w = .ok (.agg (spt i j f)) w := by
  have := run_loadVar_mid (P := Tryz.prog) w g o 131 (spt i j f).toList _ h Tryz.underlying131 rfl (by rw [spotSize]; simp [spt_size])
  simpa using this
/-- A leaf with its place, out of memory. -/
theorem wpList_sp {ops : Array Oper} {rest : List Oper} {o : Oper} {a : Act} {w : World} {Q : Exit → Act → World → Prop} (hgd : Region.wanted o (yielded ops a.tmps) = true) (x : Operand) (ho : o.op = .load 131 x)
    (g k : Nat) (hx : a.eval x = .pointer (some ⟨g, k, none⟩)) {i j : Nat} {f : Nat → Nat} (hg : w.rangeAt g k (spt i j f).toList)
    (h : wpList Tryz.prog ops Q rest (a.put o.dst (.agg (spt i j f))) w) : wpList Tryz.prog ops Q (o :: rest) a w :=
  wpList_want hgd fun _ hK => by
    unfold Oper.wp execOp
    simp only [ho, hx, Instr.loadAt, Instr.sureAddr, Sem.run_bind, Sem.run_pure, Result.andThen_ok, sp_range hg]
    rw [Oper.upon_value]
    exact hK _ _ h
/-- A variable that holds a leaf with its place. -/
abbrev SpB (w : World) (g : Nat) (X : Array Value) : Prop := Bk w g 131 X
theorem SpB.range {w : World} {g : Nat} {X : Array Value} (h : SpB w g X) : w.rangeAt g 0 X.toList := fun k v hv => by
  rw [Nat.zero_add, h.cell k]
  simpa using hv
theorem SpB.leaf {w : World} {g i j : Nat} {f : Nat → Nat} (h : SpB w g (spt i j f)) : w.rangeAt g 2 (Rw f).toList := fun k v hv => by
  rw [h.cell (2 + k)]
  unfold spt
  rw [Array.getElem?_append_right (by simp)]
  simpa using hv
theorem SpB.at {w : World} {g i j : Nat} {f : Nat → Nat} (h : SpB w g (spt i j f)) : w.cell? ⟨g, 0, none⟩ = some (.int .i64 (i : Nat)) ∧ w.cell? ⟨g, 1, none⟩ = some (.int .i64 (j : Nat)) := by
  rw [h.cell 0, h.cell 1]
  unfold spt
  exact ⟨by rw [Array.getElem?_append_left (by simp)]; rfl, by rw [Array.getElem?_append_left (by simp)]; rfl⟩
theorem SpB.row {w : World} {g : Nat} {X : Array Value} (h : SpB w g X) (Y : Array Value) : SpB (w.setRow g Y) g Y := setRow_heap w g X Y _ _ h
/-- Into such a variable. -/
theorem wpList_spst {ops : Array Oper} {rest : List Oper} {o : Oper} {a : Act} {w : World} {Q : Exit → Act → World → Prop} (hgd : o.guard = none) (x y : Operand) (ho : o.op = .store 131 x y)
    (g : Nat) (hx : a.eval x = .pointer (some ⟨g, 0, none⟩)) {X : Array Value} {i j : Nat} {f : Nat → Nat} (hy : a.eval y = .agg (spt i j f)) (hg : SpB w g X) (hX : X.size = 66)
    (h : wpList Tryz.prog ops Q rest (a.put o.dst undef) (w.setRow g (spt i j f))) : wpList Tryz.prog ops Q (o :: rest) a w :=
  wpList_store_row hgd 131 x y ho g (spt i j f) hx hy 131 X hg (by rw [spotSize, spt_size]) (by rw [hX, spt_size]) (spt_one i j f) h
section
variable {w w' : World} {B side : Nat} {F : Nat → Prop} {M : Nat → Nat → Bool}
section
set_option maxHeartbeats 4000000
set_option maxRecDepth 100000
theorem qremade_any (h : Mx w B F side M) (gf : Nat) (lb : Array Value) (tp : Nat × Nat → Nat × Nat) (ct : Nat × Nat → Nat → Nat)
    (hEG : ∀ args w, (callFunc gf args).run Tryz.prog w = .ok (.enter gf args) w)
    (hcall : ∀ p ∈ placesL M side, ∀ W, Far (fun _ => False) w W → Calls Tryz.prog gf (#[.agg (spt p.1 p.2 (blk (sub M p.1 p.2)))] ++ lb) W fun e w' => e = .returned (.agg (spt (tp p).1 (tp p).2 (ct p))) ∧ Far (fun _ => False) W w')
    (hfit : ∀ p ∈ placesL M side, (tp p).1 < lns side ∧ (tp p).2 < lns side ∧ Wf (ct p) ∧ ∀ r c, r < 64 → c < 64 → bt (ct p) r c = true → 64 * (tp p).1 + r < side ∧ 64 * (tp p).2 + c < side) :
    Calls Tryz.prog 77 #[.pointer (some ⟨B, 0, none⟩), .func (.func gf) #[] lb] w fun e w' => ∃ B', e = .returned (.pointer (some ⟨B', 0, none⟩)) ∧ ∃ F', Mx w' B' F' side (foldP tp ct (placesL M side)) ∧ (∀ k, F' k → w.heap.size ≤ k) ∧ Far (fun _ => False) w w' := by
  have hzs : ∀ w, (zeroValue 131).run Tryz.prog w = .ok (.agg (spt 0 0 fun _ => 0)) w := (zero_of_info spotZero).1
  have hS := Lib.hid h
  obtain ⟨s1, s2⟩ := h.sides
  obtain ⟨lv, root, nv, lvv, ns, A, ps, hq, hfull, hF⟩ := h
  have p0 : w.cell? ⟨B, 0, none⟩ = some (.int .i64 (side : Nat)) := hq.box.cell 0
  clear hq hfull hF
  have hcall' := Lib.hid hcall
  have hfit' := Lib.hid hfit
  clear hcall hfit
  go_enter Tryz.func77, Tryz.ntmps77
  go_wp2_with fail
  refine (qempty_any side s1 s2 w).mono ?_
  rintro e w1 ⟨rfl, l, hl, hw, hB, hf1⟩
  have hN := Lib.hid (Qd.new s1 s2 hl hw hB)
  have hf1' := Lib.hid hf1
  have hw1 := hB.lt
  have SP := qspots_any (hS.out.still hf1)
  clear hB hf1
  go_wp2_with fail
  refine SP.mono ?_
  rintro e w2 ⟨v, rfl, ho, hf2⟩
  obtain ⟨ao, cap, rfl⟩ := q_form ho
  have hN2 := Lib.hid (hN.out.still hf2)
  have hf2' := Lib.hid (hf1'.out.then hf2)
  have ho' := Lib.hid ho
  have hlo := Lib.hid (ho.lt)
  have hM2 : Mx w2 w.heap.size (Qf w.heap.size (.slice none 0 0) (.slice none 0 0)) side (fun _ _ => false) := ⟨l, 0, _, _, _, _, _, hN2.out, fun p hp => (by cases hp), rfl⟩
  have hM2' := Lib.hid hM2
  clear ho hf2 hM2 hN hN2 SP hf1' p0
  go_wp2_with fail
  go_loopw [17] (fun iv wr => ∃ k : Nat, k ≤ (placesL M side).length ∧ iv = .int .i64 (k : Nat) ∧ (∃ F', Mx wr w.heap.size F' side (foldP tp ct ((placesL M side).take k)) ∧ (∀ q, F' q → q = w.heap.size ∨ w2.heap.size ≤ q)) ∧ Far (fun k => k = w.heap.size ∨ w2.heap.size ≤ k) w2 wr) (fun iv _ => (placesL M side).length - (intOf iv).toNat)
  case atStart =>
    refine ⟨0, Nat.zero_le _, rfl, ⟨_, hM2'.out, ?_⟩, Far.refl _ _⟩
    rintro q (e | e | e)
    · exact .inl e
    · cases e
    · cases e
  case round =>
    clear hM2'
    obtain ⟨k, hk, rfl, ⟨F1, hX, hF1⟩, hf⟩ := hrel
    by_cases hlt : k < (placesL M side).length
    · have hp := List.getElem?_eq_getElem hlt
      obtain ⟨p, hpe⟩ : ∃ p, (placesL M side)[k] = p := ⟨_, rfl⟩
      rw [hpe] at hp
      have hmem := List.mem_of_getElem? hp
      obtain ⟨t1, t2, t3, t4⟩ := hfit'.out p hmem
      have hwr : Far (fun _ => False) w wr := hf2'.out.trans hf (fun q hq e => by have := hf2'.out.size; rcases e with e | e <;> omega)
      have hoR := row_same ho'.out fun q hq hl2 => hf.block q hl2 (by
        have := (hlo.out q hq).1
        rintro (e | e) <;> omega)
      have hnn : 0 < (placesL M side).length := by omega
      have hk256 : k < 256 := Nat.lt_of_lt_of_le hlt (placesL_few M s2)
      obtain ⟨g, c2, hsv, _⟩ := hoR.form hnn
      cases hsv
      have hr : wr.rangeAt g (k * 66) (spt p.1 p.2 (blk (sub M p.1 p.2))).toList := own_range hoR (srows_even M _) (srows_get hp)
      have HC := hcall'.out p hmem
      have dk : (k : Int) < ((placesL M side).length : Int) := by omega
      have hX' := Lib.hid hX
      have hf' := Lib.hid hf
      have hF1' := Lib.hid hF1
      have hwr' := Lib.hid hwr
      obtain ⟨n, hn⟩ : ∃ n, (placesL M side).length = n := ⟨_, rfl⟩
      have hn' := Lib.hid hn
      clear hoR hX hf hF1 hwr hpe hn
      go_wp2_with (first | (refine wpList_sp rfl _ rfl _ _ rfl hr ?_) | (refine wpList_spst rfl _ _ rfl _ rfl rfl (Bk.new rfl) (spt_size _ _ _) ?_) | (refine wpList_sp rfl _ rfl _ _ rfl (SpB.range (SpB.row (Bk.new rfl) _)) ?_))
      have hfa : Far (fun _ => False) wr ((wr.alloc (.cells (spt 0 0 fun _ => 0) 131)).setRow wr.heap.size (spt p.1 p.2 (blk (sub M p.1 p.2)))) := far_row ((Far.refl _ wr).alloc _) (fun h => absurd h (Nat.lt_irrefl _)) _
      refine (HC _ (hwr'.out.then hfa)).mono ?_
      rintro e w4 ⟨rfl, hf4⟩
      have hf4' := Lib.hid (hfa.then hf4)
      clear hfa hf4 HC hr
      have hb5 : SpB ((w4.alloc (.cells (spt 0 0 fun _ => 0) 131)).setRow w4.heap.size (spt (tp p).1 (tp p).2 (ct p))) w4.heap.size (spt (tp p).1 (tp p).2 (ct p)) := SpB.row (Bk.new rfl) _
      obtain ⟨c0, c1⟩ := SpB.at hb5
      have hr5 := SpB.leaf hb5
      have hfb : Far (fun _ => False) w4 ((w4.alloc (.cells (spt 0 0 fun _ => 0) 131)).setRow w4.heap.size (spt (tp p).1 (tp p).2 (ct p))) := far_row ((Far.refl _ w4).alloc _) (fun h => absurd h (Nat.lt_irrefl _)) _
      have hf5' := Lib.hid (hf4'.out.then hfb)
      clear hb5 hfb
      go_wp2_with (first | (refine wpList_spst rfl _ _ rfl _ rfl rfl (Bk.new rfl) (spt_size _ _ _) ?_) | (refine wpList_lf rfl _ rfl _ _ rfl hr5 ?_))
      obtain ⟨w5, hw5⟩ : ∃ w5, w5 = (w4.alloc (.cells (spt 0 0 fun _ => 0) 131)).setRow w4.heap.size (spt (tp p).1 (tp p).2 (ct p)) := ⟨_, rfl⟩
      rw [← hw5] at hf5' ⊢
      have PT := qput_any (hX'.out.still hf5'.out) (tp p).1 (tp p).2 t1 t2 t3 t4
      clear c0 c1 hr5 hw5 hf4' hcall' hfit'
      refine PT.mono ?_
      rintro e w6 ⟨rfl, F2, hX2, hm⟩
      have hX2' := Lib.hid hX2
      have hm' := Lib.hid hm
      clear hX2 hm PT
      go_wp2_with fail
      go_roundw
      case rel =>
        refine ⟨k + 1, by omega, by simp, ⟨F2, ?_, fun q hq => ?_⟩, ?_⟩
        · rw [List.take_add_one, hp]
          exact hX2'.out.congr fun r c => (foldP_app tp ct _ p r c).symm
        · rcases hm'.out.more q hq with h | h
          · exact hF1'.out q h
          · right; have := hf'.out.size; have := hf5'.out.size; omega
        · refine hf'.out.trans ((hf5'.out.mono (G := F1) fun _ _ h => h.elim).trans hm'.out.far fun q _ h => h) fun q _ h => hF1'.out q h
      case measure => simp only [intOf]; omega
    · have e : k = (placesL M side).length := by omega
      subst e
      rw [List.take_length] at hX
      go_wp2_with fail
      go_ret
      refine ⟨_, rfl, F1, hX, fun q hq => ?_, hf2'.out.trans hf fun q hq e => ?_⟩
      · rcases hF1 q hq with h | h
        · omega
        · have := hf2'.out.size; omega
      · have := hf2'.out.size
        rcases e with e | e <;> omega
end
end
end Go.Proofs.YtjolkhiggcmoiaaGreatDoor
