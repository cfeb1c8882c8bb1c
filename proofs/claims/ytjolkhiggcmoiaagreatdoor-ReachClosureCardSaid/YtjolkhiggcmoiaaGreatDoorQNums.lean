/-
  QNums: QCopy, QNum, QLenM, QJoin, QNumJ.
-/
import Derived.Test.YtjolkhiggcmoiaaGreatDoorQMade
import Derived.Shelf.Abstract
import Derived.Test.YtjolkhiggcmoiaaGreatDoorQBase
/-! ## QCopy: Copy, Turn, Less, Join: of the cells. -/
namespace Go.Proofs.YtjolkhiggcmoiaaGreatDoor
open Go.RowKit Go.Shelf
set_option linter.unusedVariables false
set_option linter.unusedSimpArgs false
theorem cell_sub (M : Nat → Nat → Bool) (r c : Nat) : sub M (r / 64) (c / 64) (r % 64) (c % 64) = M r c := by unfold sub; rw [Nat.div_add_mod, Nat.div_add_mod]
theorem place_of {M : Nat → Nat → Bool} {side r c : Nat} (hw : ∀ r c, M r c = true → r < side ∧ c < side) (h : M r c = true) : (r / 64, c / 64) ∈ placesL M side := by
  have := hw r c h
  refine mem_placesL.2 ⟨by unfold lns; simp; omega, by unfold lns; simp; omega, nzB_iff.2 ⟨r % 64, c % 64, Nat.mod_lt _ (by decide), Nat.mod_lt _ (by decide), by rw [cell_sub]; exact h⟩⟩
theorem fold_copy {M : Nat → Nat → Bool} {side : Nat} (hw : ∀ r c, M r c = true → r < side ∧ c < side) : ∀ r c, M r c = foldP id (fun p => blk (sub M p.1 p.2)) (placesL M side) r c := fun r c => by
  rw [Bool.eq_iff_iff, foldP_iff]
  constructor
  · intro h
    exact ⟨_, place_of hw h, rfl, rfl, by rw [bt_blk _ _ _ (Nat.mod_lt _ (by decide)), cell_sub]; exact h⟩
  · rintro ⟨⟨a, b⟩, _, h1, h2, h3⟩
    simp only [id] at h1 h2
    subst h1 h2
    rw [bt_blk _ _ _ (Nat.mod_lt _ (by decide)), cell_sub] at h3
    exact h3
/-- Turned over. -/
def tnM (M : Nat → Nat → Bool) : Nat → Nat → Bool := fun r c => M c r
theorem fold_turn {M : Nat → Nat → Bool} {side : Nat} (hw : ∀ r c, M r c = true → r < side ∧ c < side) : ∀ r c, tnM M r c = foldP (fun p => (p.2, p.1)) (fun p => blk fun r c => bt (blk (sub M p.1 p.2)) c r) (placesL M side) r c := fun r c => by
  rw [Bool.eq_iff_iff, foldP_iff]
  unfold tnM
  constructor
  · intro h
    exact ⟨_, place_of hw h, rfl, rfl, by rw [bt_blk _ _ _ (Nat.mod_lt _ (by decide)), bt_blk _ _ _ (Nat.mod_lt _ (by decide)), cell_sub]; exact h⟩
  · rintro ⟨⟨a, b⟩, _, h1, h2, h3⟩
    simp only at h1 h2
    subst h1 h2
    rw [bt_blk _ _ _ (Nat.mod_lt _ (by decide)), bt_blk _ _ _ (Nat.mod_lt _ (by decide)), cell_sub] at h3
    exact h3
/-- Less another one's. -/
def lsM (M O : Nat → Nat → Bool) : Nat → Nat → Bool := fun r c => M r c && !O r c
theorem bt_less {S O : Nat → Nat → Bool} {r c : Nat} (hr : r < 64) (hc : c < 64) : bt (fun k => less (blk S k) (blk O k)) r c = (S r c && !O r c) := by
  show (less (blk S r) (blk O r)).testBit c = _
  rw [less_bit _ _ _ (blk_wf S r hr), blk_bit _ _ _ hc, blk_bit _ _ _ hc]
theorem fold_less {M O : Nat → Nat → Bool} {side : Nat} (hw : ∀ r c, M r c = true → r < side ∧ c < side) : ∀ r c, lsM M O r c = foldP id (fun p => fun k => less (blk (sub M p.1 p.2) k) (blk (sub O p.1 p.2) k)) (placesL M side) r c := fun r c => by
  rw [Bool.eq_iff_iff, foldP_iff]
  unfold lsM
  constructor
  · intro h
    have hm : M r c = true := by rw [Bool.and_eq_true] at h; exact h.1
    exact ⟨_, place_of hw hm, rfl, rfl, by rw [bt_less (Nat.mod_lt _ (by decide)) (Nat.mod_lt _ (by decide)), cell_sub, cell_sub]; exact h⟩
  · rintro ⟨⟨a, b⟩, _, h1, h2, h3⟩
    simp only [id] at h1 h2
    subst h1 h2
    rw [bt_less (Nat.mod_lt _ (by decide)) (Nat.mod_lt _ (by decide)), cell_sub, cell_sub] at h3
    exact h3
section
variable {w w' : World} {B Bo side so : Nat} {F Fo : Nat → Prop} {M O : Nat → Nat → Bool}
section
set_option maxHeartbeats 4000000
set_option maxRecDepth 100000
theorem Mx.none_no (h : Mx w B F side M) : Calls Tryz.prog 53 #[.pointer (some ⟨B, 0, none⟩)] w fun e w' => e = .returned (.bool false) ∧ w = w' := by
  obtain ⟨lv, root, nv, lvv, ns, A, ps, hq, _, rfl⟩ := h
  exact qnone_no hq
theorem qcopy_any (h : Mx w B F side M) : Calls Tryz.prog 41 #[.pointer (some ⟨B, 0, none⟩)] w fun e w' => ∃ B', e = .returned (.pointer (some ⟨B', 0, none⟩)) ∧ ∃ F', Mx w' B' F' side M ∧ (∀ k, F' k → w.heap.size ≤ k) ∧ Far (fun _ => False) w w' := by
  have N := h.none_no
  have hw := h.within
  have R := qremade_any h 78 #[] id (fun p => blk (sub M p.1 p.2)) (enters_of Tryz.func78 (by kernel_rfl) rfl) (fun p _ W _ => copy1_any p.1 p.2 _ W) (fun p hp => by
    obtain ⟨h1, h2, _⟩ := mem_placesL.1 hp
    refine ⟨h1, h2, blk_wf _, fun r c hr hc hb => ?_⟩
    rw [bt_blk _ _ _ hc] at hb
    exact hw _ _ hb)
  have hc := fold_copy hw
  clear h
  go_enter Tryz.func41, Tryz.ntmps41
  go_wp2_with fail
  refine N.mono ?_
  rintro e w' ⟨rfl, rfl⟩
  go_wp2_with fail
  refine R.mono ?_
  rintro e w' ⟨B', rfl, F', hX, hlo, hf⟩
  have hX' := hX.congr hc
  clear hX R N
  go_wp2_with fail
  go_ret
  exact ⟨_, rfl, F', hX', hlo, hf⟩
theorem qturn_any (h : Mx w B F side M) : Calls Tryz.prog 43 #[.pointer (some ⟨B, 0, none⟩)] w fun e w' => ∃ B', e = .returned (.pointer (some ⟨B', 0, none⟩)) ∧ ∃ F', Mx w' B' F' side (tnM M) ∧ (∀ k, F' k → w.heap.size ≤ k) ∧ Far (fun _ => False) w w' := by
  have N := h.none_no
  have hw := h.within
  have R := qremade_any h 79 #[] (fun p => (p.2, p.1)) (fun p => blk fun r c => bt (blk (sub M p.1 p.2)) c r) (enters_of Tryz.func79 (by kernel_rfl) rfl) (fun p _ W _ => turn1_any p.1 p.2 _ (blk_wf _) W) (fun p hp => by
    obtain ⟨h1, h2, _⟩ := mem_placesL.1 hp
    refine ⟨h2, h1, blk_wf _, fun r c hr hc hb => ?_⟩
    rw [bt_blk _ _ _ hc, bt_blk _ _ _ hr] at hb
    exact (hw _ _ hb).symm)
  have hc := fold_turn hw
  clear h
  go_enter Tryz.func43, Tryz.ntmps43
  go_wp2_with fail
  refine N.mono ?_
  rintro e w' ⟨rfl, rfl⟩
  go_wp2_with fail
  refine R.mono ?_
  rintro e w' ⟨B', rfl, F', hX, hlo, hf⟩
  have hX' := hX.congr hc
  clear hX R N
  go_wp2_with fail
  go_ret
  exact ⟨_, rfl, F', hX', hlo, hf⟩
theorem qpair_yes (h : Mx w B F side M) (ho : Mx w Bo Fo side O) : Calls Tryz.prog 112 #[.pointer (some ⟨B, 0, none⟩), .pointer (some ⟨Bo, 0, none⟩)] w fun e w' => e = .returned (.int .i64 0) ∧ Far (fun _ => False) w w' := by
  have N1 := h.none_no
  have N2 := ho.none_no
  obtain ⟨_, _, _, _, _, _, _, hq, _, _⟩ := h
  obtain ⟨_, _, _, _, _, _, _, hq2, _, _⟩ := ho
  have p0 : w.cell? ⟨B, 0, none⟩ = some (.int .i64 (side : Nat)) := hq.box.cell 0
  have p1 : w.cell? ⟨Bo, 0, none⟩ = some (.int .i64 (side : Nat)) := hq2.box.cell 0
  clear hq hq2
  go_enter Tryz.func112, Tryz.ntmps112
  go_wp2_with fail
  refine N1.mono ?_
  rintro e w' ⟨rfl, rfl⟩
  go_wp2_with fail
  refine N2.mono ?_
  rintro e w' ⟨rfl, rfl⟩
  go_wp2_with fail
  go_quiet (fail)
  go_wp2_with fail
  go_ret
  exact ⟨rfl, (Far.refl _ w).drewN _⟩
theorem qless_yes (h : Mx w B F side M) (ho : Mx w Bo Fo side O) : Calls Tryz.prog 81 #[.pointer (some ⟨B, 0, none⟩), .pointer (some ⟨Bo, 0, none⟩)] w fun e w' => ∃ B', e = .returned (.tuple #[.pointer (some ⟨B', 0, none⟩), .int .i64 0]) ∧ ∃ F', Mx w' B' F' side (lsM M O) ∧ (∀ k, F' k → w.heap.size ≤ k) ∧ Far (fun _ => False) w w' := by
  have hw := h.within
  have ha : Far (fun _ => False) w (w.alloc (.cells #[.pointer (some ⟨Bo, 0, none⟩)] 26)) := (Far.refl _ w).alloc _
  have P := qpair_yes (h.still ha) (ho.still ha)
  have hk : Bk (w.alloc (.cells #[.pointer (some ⟨Bo, 0, none⟩)] 26)) w.heap.size 26 #[.pointer (some ⟨Bo, 0, none⟩)] := Bk.new rfl
  have hc := fold_less (O := O) hw
  have R : ∀ W, Far (fun _ => False) (w.alloc (.cells #[.pointer (some ⟨Bo, 0, none⟩)] 26)) W → _ := fun W h9 => qremade_any ((h.still ha).still h9) 113 #[.pointer (some ⟨w.heap.size, 0, none⟩)] id (fun p => fun k => less (blk (sub M p.1 p.2) k) (blk (sub O p.1 p.2) k)) (enters_of Tryz.func113 (by kernel_rfl) rfl) (fun p hp W2 h8 => by
    obtain ⟨h1, h2, _⟩ := mem_placesL.1 hp
    exact less1_any p.1 p.2 _ (blk_wf _) W2 (((ho.still ha).still h9).still h8) h1 h2 w.heap.size ((hk.far' h9 id).far' h8 id)) (fun p hp => by
    obtain ⟨h1, h2, _⟩ := mem_placesL.1 hp
    refine ⟨h1, h2, fun k hk => less_lt _ _ (blk_wf _ k hk), fun r c hr hc hb => ?_⟩
    rw [bt_less hr hc, Bool.and_eq_true] at hb
    exact hw _ _ hb.1)
  clear h ho
  have hkc := hk.cell 0
  go_enter Tryz.func81, Tryz.ntmps81
  go_wp2_with fail
  refine P.mono ?_
  rintro e w1 ⟨rfl, hf1⟩
  have R1 := R w1 hf1
  have hf2 := Lib.hid (ha.then hf1)
  clear P R hk hkc
  go_wp2_with fail
  refine R1.mono ?_
  rintro e w' ⟨B', rfl, F', hX, hlo, hf⟩
  have hX' := hX.congr hc
  clear hX R1
  go_wp2_with fail
  go_ret2
  exact ⟨_, rfl, F', hX', fun k hk => Nat.le_trans hf2.out.size (hlo k hk), hf2.out.then hf⟩
end
end
end Go.Proofs.YtjolkhiggcmoiaaGreatDoor
/-! ## QNum: How many cells there are. -/
namespace Go.Proofs.YtjolkhiggcmoiaaGreatDoor
set_option linter.unusedVariables false
set_option linter.unusedSimpArgs false
/-- The sum of the first n. -/
def sumN (f : Nat → Nat) : Nat → Nat
  | 0 => 0
  | n + 1 => sumN f n + f n
theorem sumN_congr {f g : Nat → Nat} : ∀ {n : Nat}, (∀ i, i < n → f i = g i) → sumN f n = sumN g n
  | 0, _ => rfl
  | n + 1, h => by simp only [sumN]; rw [sumN_congr (n := n) fun i hi => h i (by omega), h n (by omega)]
theorem sumN_add (f g : Nat → Nat) : ∀ n, sumN (fun i => f i + g i) n = sumN f n + sumN g n
  | 0 => rfl
  | n + 1 => by simp only [sumN]; rw [sumN_add f g n]; omega
theorem sumN_zero : ∀ n, sumN (fun _ => 0) n = 0
  | 0 => rfl
  | n + 1 => by simp only [sumN]; rw [sumN_zero n]
theorem sumN_comm (f : Nat → Nat → Nat) (m : Nat) : ∀ n, sumN (fun i => sumN (fun j => f i j) m) n = sumN (fun j => sumN (fun i => f i j) n) m
  | 0 => by simp only [sumN]; rw [sumN_zero]
  | n + 1 => by simp only [sumN]; rw [sumN_comm f m n, ← sumN_add]
theorem sumN_split (f : Nat → Nat) (k : Nat) : ∀ n, sumN f (k * n) = sumN (fun i => sumN (fun r => f (k * i + r)) k) n
  | 0 => rfl
  | n + 1 => by
    have key : ∀ m, sumN f (k * n + m) = sumN f (k * n) + sumN (fun r => f (k * n + r)) m := fun m => by
      induction m with
      | zero => rfl
      | succ m ih => rw [Nat.add_succ]; simp only [sumN]; rw [ih]; omega
    rw [Nat.mul_succ, key, sumN_split f k n]
    rfl
/-- One summand is greater by one. -/
theorem sumN_one {f g : Nat → Nat} : ∀ {n k : Nat}, k < n → f k = g k + 1 → (∀ i, i < n → i ≠ k → f i = g i) → sumN f n = sumN g n + 1
  | 0, _, h, _, _ => by omega
  | n + 1, k, h, h1, h2 => by
    simp only [sumN]
    by_cases e : k = n
    · subst e
      rw [h1, sumN_congr (f := f) (g := g) fun i hi => h2 i (by omega) (by omega)]
      omega
    · rw [sumN_one (n := n) (k := k) (by omega) h1 fun i hi => h2 i (by omega), h2 n (by omega) (by omega)]
      omega
theorem sumN_le {f : Nat → Nat} {k : Nat} : ∀ {n : Nat}, (∀ i, i < n → f i ≤ k) → sumN f n ≤ n * k
  | 0, _ => by simp [sumN]
  | n + 1, h => by
    have := sumN_le (n := n) fun i hi => h i (by omega)
    have := h n (by omega)
    simp only [sumN]; rw [Nat.succ_mul]; omega
def one (b : Bool) : Nat := if b then 1 else 0
/-- How many cells a block has. -/
def numB (S : Nat → Nat → Bool) : Nat := sumN (fun r => sumN (fun c => one (S r c)) 64) 64
/-- How many cells there are, of a side up to 1024. -/
def numM (M : Nat → Nat → Bool) : Nat := sumN (fun i => sumN (fun j => numB (sub M i j)) 16) 16
theorem pop_sum (S : Nat → Nat → Bool) (r : Nat) : ∀ n, n ≤ 64 → pop n (blk S r) = sumN (fun c => one (S r c)) n
  | 0, _ => by simp [pop, sumN]
  | n + 1, h => by
    simp only [sumN]
    rw [← pop_sum S r n (by omega)]
    unfold pop
    rw [List.range_succ, List.countP_append]
    congr 1
    rw [List.countP_singleton, blk_bit S r n (by omega)]
    rfl
theorem len_num (S : Nat → Nat → Bool) : lenB (blk S) 64 = numB S := by
  have key : ∀ k, lenB (blk S) k = sumN (fun r => sumN (fun c => one (S r c)) 64) k := fun k => by
    induction k with
    | zero => rfl
    | succ k ih =>
      show lenB (blk S) k + oc (blk S k) = sumN (fun r => sumN (fun c => one (S r c)) 64) k + sumN (fun c => one (S k c)) 64
      rw [ih, oc_pop, pop_sum S k 64 (Nat.le_refl _)]
  exact key 64
/-- Row by row. -/
theorem num_rows (M : Nat → Nat → Bool) : numM M = sumN (fun r => sumN (fun c => one (M r c)) 1024) 1024 := by
  rw [show (1024 : Nat) = 64 * 16 from rfl, sumN_split]
  unfold numM
  refine sumN_congr fun i hi => ?_
  have : ∀ r, sumN (fun c => one (M (64 * i + r) c)) (64 * 16) = sumN (fun j => sumN (fun c => one (sub M i j r c)) 64) 16 := fun r => by rw [sumN_split]; rfl
  rw [sumN_congr (f := fun r => sumN (fun c => one (M (64 * i + r) c)) (64 * 16)) (fun r _ => this r), sumN_comm]
  rfl
theorem numM_zero : numM (fun _ _ => false) = 0 := by
  rw [num_rows]
  have : ∀ n, sumN (fun c => one false) n = 0 := fun n => sumN_zero n
  simp only [this]
  exact sumN_zero _
theorem numM_congr {M M' : Nat → Nat → Bool} (h : ∀ r c, M r c = M' r c) : numM M = numM M' := by
  have : M = M' := funext fun r => funext fun c => h r c
  rw [this]
theorem numM_put {M : Nat → Nat → Bool} {i j : Nat} (hi : i < 1024) (hj : j < 1024) (h : M i j = false) : numM (putM M i j) = numM M + 1 := by
  rw [num_rows, num_rows]
  refine sumN_one hi ?_ fun r _ hr => ?_
  · refine sumN_one hj ?_ fun c _ hc => ?_
    · simp [putM, h, one]
    · simp [putM, hc]
  · refine sumN_congr fun c _ => ?_
    simp [putM, hr]
theorem numM_turn (M : Nat → Nat → Bool) : numM (tnM M) = numM M := by
  rw [num_rows, num_rows, sumN_comm]
  rfl
theorem numM_le (M : Nat → Nat → Bool) : numM M ≤ 1048576 := by
  rw [num_rows]
  refine Nat.le_trans (sumN_le (k := 1024 * 1) fun r _ => sumN_le fun c _ => ?_) (by decide)
  unfold one; split <;> omega
/-- The sum over a list of places. -/
theorem sum_places (g : Nat × Nat → Nat) (ps : List (Nat × Nat)) (hn : ps.Nodup) (h16 : ∀ p ∈ ps, p.1 < 16 ∧ p.2 < 16) (h0 : ∀ a b, (a, b) ∉ ps → g (a, b) = 0) :
    (ps.map g).sum = sumN (fun i => sumN (fun j => g (i, j)) 16) 16 := by
  induction ps generalizing g with
  | nil =>
    have : ∀ i, sumN (fun j => g (i, j)) 16 = 0 := fun i => by
      rw [sumN_congr (f := fun j => g (i, j)) (g := fun _ => 0) fun j _ => h0 i j (by simp)]; exact sumN_zero _
    simp only [this, sumN_zero, List.map_nil, List.sum_nil]
  | cons p ps ih =>
    obtain ⟨a, b⟩ := p
    rw [List.nodup_cons] at hn
    have hp := h16 (a, b) (List.mem_cons_self ..)
    have := ih (fun q => if q = (a, b) then 0 else g q) hn.2 (fun q hq => h16 q (List.mem_cons_of_mem _ hq)) (fun c d hm => by
      by_cases e : (c, d) = (a, b)
      · simp [e]
      · simp only [if_neg e]
        exact h0 c d (by simp only [List.mem_cons, not_or]; exact ⟨e, hm⟩))
    rw [List.map_congr_left (g := g) (fun q hq => if_neg (by rintro rfl; exact hn.1 hq))] at this
    rw [List.map_cons, List.sum_cons, this]
    have key : ∀ (f f' : Nat → Nat) (n k d : Nat), k < n → f k = f' k + d → (∀ i, i < n → i ≠ k → f i = f' i) → sumN f n = sumN f' n + d := fun f f' n k d => by
      induction n with
      | zero => intro h; omega
      | succ n ihn =>
        intro hk h1 h2
        simp only [sumN]
        by_cases e : k = n
        · subst e
          rw [h1, sumN_congr (f := f) (g := f') fun i hi => h2 i (by omega) (by omega)]; omega
        · rw [ihn (by omega) h1 fun i hi => h2 i (by omega), h2 n (by omega) (by omega)]; omega
    rw [key (fun i => sumN (fun j => g (i, j)) 16) (fun i => sumN (fun j => if (i, j) = (a, b) then 0 else g (i, j)) 16) 16 a (g (a, b)) hp.1 ?_ ?_]
    · omega
    · exact key _ _ 16 b _ hp.2 (by simp) fun j _ hj => by simp [hj]
    · intro i _ hi
      exact sumN_congr fun j _ => by simp [hi]
end Go.Proofs.YtjolkhiggcmoiaaGreatDoor
/-! ## QLenM: Len of a matrix: how many cells there are. -/
namespace Go.Proofs.YtjolkhiggcmoiaaGreatDoor
open Go.RowKit
set_option linter.unusedVariables false
set_option linter.unusedSimpArgs false
section
variable {w w' : World} {B side lv root : Nat} {nv lvv : Value} {ns : List (Nat → Nat)} {A : Nat → Nat → Nat → Nat} {ps : List (Nat × Nat)} {F : Nat → Prop} {M : Nat → Nat → Bool}
theorem Qd.sum (h : Qd w B side lv root nv lvv ns A ps M) : (ps.map fun p => lenB (blk (sub M p.1 p.2)) 64).sum = numM M := by
  rw [sum_places (fun p => lenB (blk (sub M p.1 p.2)) 64) ps h.tree.nodup h.small fun a b hm => ?_]
  · exact sumN_congr fun i _ => sumN_congr fun j _ => len_num _
  · show lenB (blk (sub M a b)) 64 = 0
    rw [len_num]
    have hz : A 0 a b = 0 := Classical.byContradiction fun hne => hm (List.mem_of_getElem? (h.tree.leaf a b hne))
    unfold numB
    have : ∀ r, r < 64 → sumN (fun c => one (sub M a b r c)) 64 = 0 := fun r hr => by
      rw [sumN_congr (g := fun _ => 0) fun c hc => by rw [show sub M a b r c = false from h.bare a b hz r c hr hc]; rfl]
      exact sumN_zero _
    rw [sumN_congr this]
    exact sumN_zero _
theorem take_sum (g : Nat × Nat → Nat) (l : List (Nat × Nat)) {k : Nat} {p : Nat × Nat} (h : l[k]? = some p) : ((l.take (k + 1)).map g).sum = ((l.take k).map g).sum + g p := by
  rw [List.take_add_one, h]; simp
theorem sum_take_le (g : Nat × Nat → Nat) (l : List (Nat × Nat)) (k : Nat) : ((l.take k).map g).sum ≤ (l.map g).sum := by
  have : (l.map g).sum = ((l.take k).map g).sum + ((l.drop k).map g).sum := by
    rw [← List.sum_append, ← List.map_append, List.take_append_drop]
  omega
section
set_option maxHeartbeats 4000000
set_option maxRecDepth 100000
theorem qlen_any (h : Mx w B F side M) : Calls Tryz.prog 38 #[.pointer (some ⟨B, 0, none⟩)] w fun e w' => e = .returned (.int .i64 (numM M : Nat)) ∧ Far (fun _ => False) w w' := by
  have hz : ∀ w, (zeroValue 108).run Tryz.prog w = .ok (.agg (Rw fun _ => 0)) w := (zero_of_info blockZero).1
  have N := h.none_no
  have hle := numM_le M
  obtain ⟨lv, root, nv, lvv, ns, A, ps, hq, _, rfl⟩ := h
  have hsum := hq.sum
  obtain ⟨ao, cap, hsl⟩ := q_form hq.leaves
  subst hsl
  have p4 : w.cell? ⟨B, 4, none⟩ = some (.slice ao ps.length cap) := hq.box.cell 4
  have hmany := hq.many
  have hq' := Lib.hid hq
  have hsum' := Lib.hid hsum
  clear hq hsum
  go_enter Tryz.func38, Tryz.ntmps38
  go_wp2_with fail
  refine N.mono ?_
  rintro e w' ⟨rfl, rfl⟩
  go_wp2_with fail
  clear p4
  go_loopw [3, 13] (fun nn iv wr => ∃ k : Nat, k ≤ ps.length ∧ iv = .int .i64 (k : Nat) ∧ nn = .int .i64 (((ps.take k).map fun p => lenB (blk (sub M p.1 p.2)) 64).sum : Nat) ∧ Far (fun _ => False) w wr) (fun _ iv _ => ps.length - (intOf iv).toNat)
  case atStart => exact ⟨0, Nat.zero_le _, rfl, by simp, Far.refl _ w⟩
  case round =>
    obtain ⟨k, hk, rfl, rfl, hf⟩ := hrel
    by_cases hlt : k < ps.length
    · have hp := List.getElem?_eq_getElem hlt
      obtain ⟨p, hpe⟩ : ∃ p, ps[k] = p := ⟨_, rfl⟩
      rw [hpe] at hp
      have hqr := hq'.out.still hf
      obtain ⟨g, c2, hsv, _⟩ := hqr.leaves.form (by omega)
      cases hsv
      have hr : wr.rangeAt g (k * 64) (Rw (blk (sub M p.1 p.2))).toList := own_range hqr.leaves (lrows_even M ps) (lrows_get hp)
      have dk : (k : Int) < (ps.length : Int) := by omega
      have ht := take_sum (fun p => lenB (blk (sub M p.1 p.2)) 64) ps hp
      have hl1 := sum_take_le (fun p => lenB (blk (sub M p.1 p.2)) 64) ps (k + 1)
      rw [hsum'.out] at hl1
      obtain ⟨s, hs⟩ : ∃ s, ((ps.take k).map fun p => lenB (blk (sub M p.1 p.2)) 64).sum = s := ⟨_, rfl⟩
      rw [hs] at ht ⊢
      have ht' := Lib.hid ht
      have hf' := Lib.hid hf
      rw [ht] at hl1
      obtain ⟨y, hy⟩ : ∃ y, lenB (blk (sub M p.1 p.2)) 64 = y := ⟨_, rfl⟩
      have LE := fun w' => len_any (blk (sub M p.1 p.2)) w' (blk_wf _)
      rw [hy] at LE hl1
      have hy' := Lib.hid hy
      clear hqr hf hpe ht hs hy
      go_wp2_with (first | (refine wpList_lf rfl _ rfl _ _ rfl hr ?_) | (apply wpList_st rfl _ _ rfl _ rfl _ rfl; focus (exact Hold.new rfl)) | (apply wpList_ld rfl _ rfl _ rfl; focus (exact Hold.row (Hold.new rfl) _)))
      refine (LE _).mono ?_
      rintro e w2 ⟨rfl, hb⟩
      have hf2 := Lib.hid ((hf'.out.then (far_row (F := fun _ => False) ((Far.refl _ wr).alloc (.cells (Rw fun _ => 0) 108)) (fun h => absurd h (Nat.lt_irrefl _)) (Rw (blk (sub M p.1 p.2))))).then (below_far hb))
      clear LE hb hr
      go_wp2_with fail
      go_roundw
      case rel => exact ⟨k + 1, by omega, by simp, by rw [ht'.out, hy'.out]; simp, hf2.out⟩
      case measure => simp only [intOf]; omega
    · have e : k = ps.length := by omega
      subst e
      go_wp2_with fail
      go_ret
      refine ⟨?_, hf⟩
      have := hsum'.out
      rw [List.take_length, this]
      rfl
end
end
end Go.Proofs.YtjolkhiggcmoiaaGreatDoor
/-! ## QJoin: Join: another one's cells more. -/
namespace Go.Proofs.YtjolkhiggcmoiaaGreatDoor
open Go.RowKit Go.Shelf
set_option linter.unusedVariables false
set_option linter.unusedSimpArgs false
/-- The cells of both. -/
def joinM (M O : Nat → Nat → Bool) : Nat → Nat → Bool := fun r c => M r c || O r c
theorem joinM_or (M K : Nat → Nat → Bool) (i j : Nat) (f : Nat → Nat) : ∀ r c, joinM M (orM K i j f) r c = orM (joinM M K) i j f r c := fun r c => by
  unfold joinM orM
  exact (Bool.or_assoc _ _ _).symm
section
variable {w w' : World} {B Bo side : Nat} {F Fo : Nat → Prop} {M O : Nat → Nat → Bool}
section
set_option maxHeartbeats 4000000
set_option maxRecDepth 100000
theorem qjoin_any (h : Mx w B F side M) (ho : Mx w Bo Fo side O) : Calls Tryz.prog 108 #[.pointer (some ⟨B, 0, none⟩), .pointer (some ⟨Bo, 0, none⟩)] w fun e w' => ∃ v : Bool, e = .returned (.tuple #[.bool v, .int .i64 0]) ∧ (v = true ↔ ∃ r c, O r c = true ∧ M r c = false) ∧ ∃ F', Mx w' B F' side (joinM M O) ∧ Mv w w' F F' := by
  have hzs : ∀ w, (zeroValue 131).run Tryz.prog w = .ok (.agg (spt 0 0 fun _ => 0)) w := (zero_of_info spotZero).1
  obtain ⟨s1, s2⟩ := h.sides
  have hwin := ho.within
  have hfold := fold_copy hwin
  have P := qpair_yes h ho
  have h' := Lib.hid h
  have ho' := Lib.hid ho
  have hwin' := Lib.hid hwin
  have hfold' := Lib.hid hfold
  clear h ho hwin hfold
  go_enter Tryz.func108, Tryz.ntmps108
  go_wp2_with fail
  refine P.mono ?_
  rintro e w1 ⟨rfl, hf1⟩
  have SP := qspots_any (ho'.out.still hf1)
  have hf1' := Lib.hid hf1
  clear P hf1
  go_wp2_with fail
  refine SP.mono ?_
  rintro e w2 ⟨v, rfl, hrow, hf2⟩
  obtain ⟨ao, cap, rfl⟩ := q_form hrow
  have hX2 := Lib.hid ((h'.out.still hf1'.out).still hf2)
  have hf12 := Lib.hid (hf1'.out.then hf2)
  have hrow' := Lib.hid hrow
  have hlo := Lib.hid (hrow.lt)
  have hFlo := Lib.hid (fun q hq => Nat.lt_of_lt_of_le (h'.out.lt q hq) hf1'.out.size : ∀ q, F q → q < w1.heap.size)
  clear SP hrow hf2
  go_wp2_with fail
  go_loopw [7, 19] (fun mv iv wr => ∃ (k : Nat) (b : Bool), k ≤ (placesL O side).length ∧ iv = .int .i64 (k : Nat) ∧ mv = .bool b ∧ (b = true ↔ ∃ r c, foldP id (fun p => blk (sub O p.1 p.2)) ((placesL O side).take k) r c = true ∧ M r c = false) ∧ (∃ F', Mx wr B F' side (joinM M (foldP id (fun p => blk (sub O p.1 p.2)) ((placesL O side).take k))) ∧ Mv w2 wr F F')) (fun _ iv _ => (placesL O side).length - (intOf iv).toNat)
  case atStart =>
    refine ⟨0, false, Nat.zero_le _, rfl, rfl, ⟨(fun h => by cases h), fun ⟨r, c, h, _⟩ => by simp [foldP] at h⟩, F, hX2.out.congr fun r c => by simp [joinM, foldP], Mv.still (Far.refl _ _)⟩
  case round =>
    clear hX2
    obtain ⟨k, b, hk, rfl, rfl, hb, F1, hX, hm1⟩ := hrel
    by_cases hlt : k < (placesL O side).length
    · have hp := List.getElem?_eq_getElem hlt
      obtain ⟨p, hpe⟩ : ∃ p, (placesL O side)[k] = p := ⟨_, rfl⟩
      rw [hpe] at hp
      have hmem := List.mem_of_getElem? hp
      obtain ⟨t1, t2, _⟩ := mem_placesL.1 hmem
      have hnn : 0 < (placesL O side).length := by omega
      have hk256 : k < 256 := Nat.lt_of_lt_of_le hlt (placesL_few O s2)
      have hoR := row_same hrow'.out fun q hq hl2 => hm1.far.block q hl2 (fun e => by
        have := (hlo.out q hq).1
        have := hFlo.out q e
        omega)
      obtain ⟨g, c2, hsv, _⟩ := hoR.form hnn
      cases hsv
      have hr : wr.rangeAt g (k * 66) (spt p.1 p.2 (blk (sub O p.1 p.2))).toList := own_range hoR (srows_even O _) (srows_get hp)
      have dk : (k : Int) < ((placesL O side).length : Int) := by omega
      obtain ⟨K, hK⟩ : ∃ K, K = foldP id (fun p => blk (sub O p.1 p.2)) ((placesL O side).take k) := ⟨_, rfl⟩
      have hK1 : ∀ r c, foldP id (fun p => blk (sub O p.1 p.2)) ((placesL O side).take (k + 1)) r c = orM K p.1 p.2 (blk (sub O p.1 p.2)) r c := fun r c => by
        rw [hK, List.take_add_one, hp]
        exact (foldP_app id (fun p => blk (sub O p.1 p.2)) _ p r c).symm
      rw [← hK] at hb hX
      have hX' := Lib.hid hX
      have hb' := Lib.hid hb
      have hm1' := Lib.hid hm1
      have hK1' := Lib.hid hK1
      have hin := Lib.hid (show ∀ r c, r < 64 → c < 64 → bt (blk (sub O p.1 p.2)) r c = true → 64 * p.1 + r < side ∧ 64 * p.2 + c < side from fun r c hr hc hbt => by
        rw [bt_blk _ _ _ hc] at hbt
        exact hwin'.out _ _ hbt)
      obtain ⟨n, hn⟩ : ∃ n, (placesL O side).length = n := ⟨_, rfl⟩
      have hn' := Lib.hid hn
      clear hoR hX hb hm1 hpe hn hK hK1
      go_upto_region 8 with (first | (refine wpList_sp rfl _ rfl _ _ rfl hr ?_) | (refine wpList_spst rfl _ _ rfl _ rfl rfl (Bk.new rfl) (spt_size _ _ _) ?_))
      rw [World.setRow_alloc_new]
      obtain ⟨b9, hb9⟩ : ∃ b, b = wr.heap.size := ⟨_, rfl⟩
      obtain ⟨wa, hwa⟩ : ∃ V, V = wr.alloc (.cells (spt p.1 p.2 (blk (sub O p.1 p.2))) 131) := ⟨_, rfl⟩
      rw [← hb9, ← hwa]
      have hfa : Far (fun _ => False) wr wa := hwa ▸ (Far.refl _ wr).alloc _
      have hB9 : SpB wa b9 (spt p.1 p.2 (blk (sub O p.1 p.2))) := hwa ▸ Bk.new hb9
      obtain ⟨x0, x1⟩ := SpB.at hB9
      have x2 := SpB.leaf hB9
      have PT := qput_any (hX'.out.still hfa) p.1 p.2 t1 t2 (blk_wf _) hin.out
      have hfa' := Lib.hid hfa
      have hstep : ∀ r c, joinM M (foldP id (fun p => blk (sub O p.1 p.2)) ((placesL O side).take (k + 1))) r c = orM (joinM M K) p.1 p.2 (blk (sub O p.1 p.2)) r c := fun r c => by
        rw [← joinM_or M K]
        unfold joinM
        rw [hK1'.out]
      have hstep' := Lib.hid hstep
      clear hwa hb9 hfa hB9 hr hstep
      cases hnb : newB (joinM M K) p.1 p.2 (blk (sub O p.1 p.2))
      · rw [hnb] at PT
        have hiff := Lib.hid (show b = true ↔ ∃ r c, foldP id (fun p => blk (sub O p.1 p.2)) ((placesL O side).take (k + 1)) r c = true ∧ M r c = false from hb'.out.trans ⟨fun ⟨r, c, h1, h2⟩ => ⟨r, c, by rw [hK1'.out]; unfold orM; rw [h1, Bool.true_or], h2⟩, fun ⟨r, c, h1, h2⟩ => ⟨r, c, by
          have h3 := hstep'.out r c
          rw [orM_same hnb r c] at h3
          unfold joinM at h3
          rw [h1, h2] at h3
          simpa using h3.symm, h2⟩⟩)
        clear hnb
        go_wp2_with (first | (refine wpList_lf rfl _ rfl _ _ rfl x2 ?_) | (refine PT.mono ?_; rintro e w6 ⟨rfl, F2, hX2, hm2⟩; have hX2' := Lib.hid hX2; have hm2' := Lib.hid hm2; clear hX2 hm2 PT x0 x1 x2))
        go_roundw
        case rel => exact ⟨k + 1, b, by omega, by simp, rfl, hiff.out, F2, hX2'.out.congr fun r c => hstep'.out r c, hm1'.out.trans ((Mv.still hfa'.out).trans hm2'.out)⟩
        case measure => simp only [intOf]; omega
      · rw [hnb] at PT
        have hiff := Lib.hid (show true = true ↔ ∃ r c, foldP id (fun p => blk (sub O p.1 p.2)) ((placesL O side).take (k + 1)) r c = true ∧ M r c = false from ⟨fun _ => by
          obtain ⟨r, c, hr, hc, h1, h2⟩ := newB_iff.1 hnb
          have h3 : joinM M K (64 * p.1 + r) (64 * p.2 + c) = false := h2
          unfold joinM at h3
          rw [Bool.or_eq_false_iff] at h3
          refine ⟨64 * p.1 + r, 64 * p.2 + c, ?_, h3.1⟩
          rw [hK1'.out]
          unfold orM
          rw [show (64 * p.1 + r) / 64 = p.1 by omega, show (64 * p.2 + c) / 64 = p.2 by omega, show (64 * p.1 + r) % 64 = r by omega, show (64 * p.2 + c) % 64 = c by omega, h1]
          simp, fun _ => rfl⟩)
        clear hnb
        go_wp2_with (first | (refine wpList_lf rfl _ rfl _ _ rfl x2 ?_) | (refine PT.mono ?_; rintro e w6 ⟨rfl, F2, hX2, hm2⟩; have hX2' := Lib.hid hX2; have hm2' := Lib.hid hm2; clear hX2 hm2 PT x0 x1 x2))
        go_roundw
        case rel => exact ⟨k + 1, true, by omega, by simp, rfl, ⟨fun _ => hiff.out.1 (by trivial), fun _ => rfl⟩, F2, hX2'.out.congr fun r c => hstep'.out r c, hm1'.out.trans ((Mv.still hfa'.out).trans hm2'.out)⟩
        case measure => simp only [intOf]; omega
    · have e : k = (placesL O side).length := by omega
      subst e
      rw [List.take_length] at hX hb
      have hX' := Lib.hid hX
      have hb' := Lib.hid hb
      have hm1' := Lib.hid hm1
      clear hX hb hm1
      go_wp2_with fail
      go_ret2
      refine ⟨b, rfl, hb'.out.trans ⟨fun ⟨r, c, h1, h2⟩ => ⟨r, c, by rw [hfold'.out]; exact h1, h2⟩, fun ⟨r, c, h1, h2⟩ => ⟨r, c, by rw [← hfold'.out]; exact h1, h2⟩⟩, F1, hX'.out.congr fun r c => by unfold joinM; rw [hfold'.out], (Mv.still hf12.out).trans hm1'.out⟩
end
end
end Go.Proofs.YtjolkhiggcmoiaaGreatDoor
/-! ## QNumJ: How many cells a union and a difference have. -/
namespace Go.Proofs.YtjolkhiggcmoiaaGreatDoor
open Go.RowKit
set_option linter.unusedVariables false
set_option linter.unusedSimpArgs false
theorem sumN_mono {f g : Nat → Nat} : ∀ {n : Nat}, (∀ i, i < n → f i ≤ g i) → sumN f n ≤ sumN g n
  | 0, _ => Nat.le_refl _
  | n + 1, h => by
    have := sumN_mono (f := f) (g := g) (n := n) fun i hi => h i (by omega)
    have := h n (by omega)
    simp only [sumN]
    omega
theorem sumN_lt {f g : Nat → Nat} : ∀ {n k : Nat}, k < n → f k < g k → (∀ i, i < n → f i ≤ g i) → sumN f n < sumN g n
  | 0, k, hk, _, _ => absurd hk (Nat.not_lt_zero _)
  | n + 1, k, hk, h1, h2 => by
    simp only [sumN]
    by_cases e : k = n
    · subst e
      have := sumN_mono (f := f) (g := g) (n := k) fun i hi => h2 i (by omega)
      omega
    · have := sumN_lt (f := f) (g := g) (n := n) (k := k) (by omega) h1 fun i hi => h2 i (by omega)
      have := h2 n (by omega)
      omega
theorem numM_diff {M O : Nat → Nat → Bool} (h : ∀ r c, O r c = true → M r c = true) : numM (lsM M O) + numM O = numM M := by
  rw [num_rows, num_rows, num_rows, ← sumN_add]
  refine sumN_congr fun r _ => ?_
  rw [← sumN_add]
  refine sumN_congr fun c _ => ?_
  have := h r c
  unfold lsM one
  cases hm : M r c <;> cases ho : O r c <;> simp [hm, ho] at this ⊢
theorem numM_pos {M : Nat → Nat → Bool} {r c : Nat} (hr : r < 1024) (hc : c < 1024) (h : M r c = true) : 0 < numM M := by
  rw [num_rows]
  have h0 : sumN (fun r => sumN (fun c => one (M r c)) 1024) 1024 > sumN (fun _ => 0) 1024 := sumN_lt (k := r) hr (by
    have : sumN (fun c => one (M r c)) 1024 > sumN (fun _ => 0) 1024 := sumN_lt (k := c) hc (by simp [one, h]) fun i _ => Nat.zero_le _
    rw [sumN_zero] at this
    exact this) fun i _ => Nat.zero_le _
  rw [sumN_zero] at h0
  exact h0
/-- A union has more cells just where the other one has a cell more. -/
theorem num_join {M O : Nat → Nat → Bool} {side : Nat} (hs : side ≤ 1024) (hw : ∀ r c, O r c = true → r < side ∧ c < side) : (∃ r c, O r c = true ∧ M r c = false) ↔ numM M < numM (joinM M O) := by
  have hd := numM_diff (M := joinM M O) (O := M) fun r c h => by unfold joinM; rw [h, Bool.true_or]
  constructor
  · rintro ⟨r, c, h1, h2⟩
    obtain ⟨a, b⟩ := hw r c h1
    have := numM_pos (M := lsM (joinM M O) M) (r := r) (c := c) (by omega) (by omega) (by unfold lsM joinM; simp [h1, h2])
    omega
  · intro h
    refine Classical.byContradiction fun hn => ?_
    have : numM (joinM M O) = numM M := numM_congr fun r c => by
      unfold joinM
      cases hm : M r c
      · cases ho : O r c
        · rfl
        · exact absurd ⟨r, c, ho, hm⟩ hn
      · rfl
    omega
/-- A union less the other has as many cells fewer as the other has. -/
theorem num_less_join (M O : Nat → Nat → Bool) : numM (lsM (joinM M O) O) + numM O = numM (joinM M O) := numM_diff fun r c h => by unfold joinM; rw [h, Bool.or_true]
end Go.Proofs.YtjolkhiggcmoiaaGreatDoor
