/-
  The document's matrices: New, In, Of.
-/
import Derived.Test.YtjolkhiggcmoiaaGreatDoorQSorted
import Derived.Test.YtjolkhiggcmoiaaGreatDoorQOfAny
import Derived.Test.YtjolkhiggcmoiaaGreatDoorQuietFar
import Derived.Deep.RegionHeld3
namespace Go.Proofs.YtjolkhiggcmoiaaGreatDoor
open Go.RowKit Go.Shelf
set_option linter.unusedVariables false
set_option linter.unusedSimpArgs false
theorem PL.kept {w w' : World} {F : Nat → Prop} {ao : Option Addr} {l : List (Nat × Nat)} (h : PL w ao l) (hf : Far F w w') (hF : ∀ a, ao = some a → a.block < w.heap.size → ¬ F a.block) : PL w' ao l := fun hn => by
  obtain ⟨g, off, rfl, hg, hc⟩ := h hn
  have hb := hf.block g hg (hF _ rfl hg)
  exact ⟨g, off, rfl, Nat.lt_of_lt_of_le hg hf.size, fun k hk => ⟨(cell_eq (p := ⟨g, off + k * 2, none⟩) hb).trans (hc k hk).1, (cell_eq (p := ⟨g, off + k * 2 + 1, none⟩) hb).trans (hc k hk).2⟩⟩
/-- A matrix of the document's, or none (of the side 0). -/
def Dm (w : World) (v : Value) (s : Nat) (M : Nat → Nat → Bool) : Prop := ∃ ao cap, v = .agg #[.int .i64 (s : Nat), .slice ao (cellsL M s).length cap] ∧ PL w ao (cellsL M s) ∧ (cellsL M s).length ≤ cap ∧ s ≤ 1024 ∧ ∀ r c, M r c = true → r < s ∧ c < s
/-- Its list lies in a block from b on. -/
def Dn (v : Value) (b : Nat) : Prop := ∀ s ao n cap, v = .agg #[s, .slice ao n cap] → ∀ a, ao = some a → b ≤ a.block
theorem Dn.none (b : Nat) : Dn (.agg #[.int .i64 0, .slice none 0 0]) b := fun s ao n cap e a ha => by cases e; cases ha
theorem Dm.move {w w' : World} {v : Value} {s : Nat} {M : Nat → Nat → Bool} (h : Dm w v s M) (hf : Far (fun _ => False) w w') : Dm w' v s M := by
  obtain ⟨ao, cap, e, hp, r⟩ := h
  exact ⟨ao, cap, e, hp.move hf, r⟩
theorem Dm.none (w : World) : Dm w (.agg #[.int .i64 0, .slice none 0 0]) 0 zeroM := ⟨Option.none, 0, rfl, fun h => absurd h (by simp [cellsL, cellsK]), by simp [cellsL, cellsK], by omega, fun _ _ h => by cases h⟩
theorem Dm.len {w : World} {v : Value} {s : Nat} {M : Nat → Nat → Bool} (h : Dm w v s M) : (cellsL M s).length ≤ 1048576 := by
  obtain ⟨ao, cap, e, hp, _, hs, hw⟩ := h
  exact rise_len (cellsK_rise M s s) fun x hx => by
    have := hw _ _ ((mem_cellsL hw).1 hx)
    omega
theorem Dm.congr {w : World} {v : Value} {s : Nat} {M M' : Nat → Nat → Bool} (h : Dm w v s M) (e : ∀ r c, M' r c = M r c) : Dm w v s M' := by
  have : M' = M := funext fun r => funext fun c => e r c
  rw [this]; exact h
/-- A rising list of cells of the call's own makes a matrix. -/
theorem Dm.own {w : World} {base s n cap : Nat} {ao : Option Addr} {L : List (Nat × Nat)} {M : Nat → Nat → Bool} (hs : s ≤ 1024) (hw : ∀ r c, M r c = true → r < s ∧ c < s) (hr : L.Pairwise lexLt) (hm : ∀ x, x ∈ L ↔ M x.1 x.2 = true)
    (h : w.ownsRow base 71 2 (.slice ao n cap) n (ccells L)) (hn : n = L.length) : Dm w (.agg #[.int .i64 (s : Nat), .slice ao n cap]) s M := by
  have e : cellsL M s = L := rise_eq (cellsK_rise M s s) hr fun x => (mem_cellsL hw).trans (hm x).symm
  have hcap : n ≤ cap := by
    rcases h.2 with ⟨e1, e2⟩ | ⟨g, c2, cur, e1, _, _, h5, _⟩
    · cases e1; omega
    · cases e1; exact h5
  refine ⟨ao, cap, by rw [e, hn], ?_, by rw [e, ← hn]; exact hcap, hs, hw⟩
  rw [e]
  exact PL.own h hn
def listC (n : Nat) (R C : Nat → Int) : List (Nat × Nat) := (List.range n).map fun k => ((R k).toNat, (C k).toNat)
theorem listC_len (n : Nat) (R C : Nat → Int) : (listC n R C).length = n := by simp [listC]
theorem mem_listC {n : Nat} {R C : Nat → Int} {x : Nat × Nat} : x ∈ listC n R C ↔ putL (fun k => (R k).toNat) (fun k => (C k).toNat) n x.1 x.2 = true := by
  rw [putL_iff]
  unfold listC
  rw [List.mem_map]
  constructor
  · rintro ⟨k, hk, rfl⟩
    exact ⟨k, List.mem_range.1 hk, rfl, rfl⟩
  · rintro ⟨k, hk, h1, h2⟩
    exact ⟨k, List.mem_range.2 hk, Prod.ext h1.symm h2.symm⟩
theorem Cls.list {w : World} {ao : Option Addr} {n : Nat} {R C : Nat → Int} (h : Cls w ao n R C) (h0 : ∀ k, k < n → 0 ≤ R k ∧ 0 ≤ C k) : PL w ao (listC n R C) := fun hn => by
  rw [listC_len] at hn
  obtain ⟨g, off, e, hg, hc⟩ := h.nat h0 hn
  refine ⟨g, off, e, hg, fun k hk => ?_⟩
  rw [listC_len] at hk
  have e2 : (listC n R C).getD k (0, 0) = ((R k).toNat, (C k).toNat) := by
    rw [List.getD_eq_getElem?_getD]
    simp [listC, hk]
  dsimp only
  rw [e2]
  exact hc k hk
section
set_option maxHeartbeats 8000000
set_option maxRecDepth 100000
theorem rin_any (s : Nat) (v : Value) (i : Int) (w : World) : Calls Tryz.prog 66 #[.agg #[.int .i64 (s : Nat), v], .int .i64 i] w fun e w' => e = .returned (.bool (decide (0 ≤ i) && decide (i < (s : Int)))) ∧ Far (fun _ => False) w w' := by
  have hf := Lib.hid (show Far (fun _ => False) w (w.alloc (.cells #[.int .i64 (s : Nat), v] 27)) from (Far.refl _ w).alloc _)
  by_cases h1 : 0 ≤ i
  · by_cases h2 : i < (s : Int)
    · rw [decide_eq_true h1, decide_eq_true h2]
      go_enter Tryz.func66, Tryz.ntmps66
      go_wp2_with fail
      go_ret
      exact ⟨rfl, hf.out⟩
    · rw [decide_eq_true h1, decide_eq_false h2]
      go_enter Tryz.func66, Tryz.ntmps66
      go_wp2_with fail
      go_ret
      exact ⟨rfl, hf.out⟩
  · rw [decide_eq_false h1]
    go_enter Tryz.func66, Tryz.ntmps66
    go_wp2_with fail
    go_ret
    exact ⟨rfl, hf.out⟩
theorem rnew_yes (s : Nat) (h1 : 1 ≤ s) (h2 : s ≤ 1024) (w : World) : Calls Tryz.prog 42 #[.int .i64 (s : Nat)] w fun e w' => e = .returned (.tuple #[.agg #[.int .i64 (s : Nat), .slice none 0 0], .int .i64 0]) ∧ Far (fun _ => False) w w' := by
  have i1 : ¬ (s : Int) < 1 := by omega
  have i2 : ¬ (1024 : Int) < (s : Int) := by omega
  go_enter Tryz.func42, Tryz.ntmps42
  go_wp2_with fail
  (try simp only [Exit.inBlock, Exit.then])
  exact bodyPost_ret (v := .tuple #[.agg #[.int .i64 (s : Nat), .slice none 0 0], .int .i64 0]) (by simp [results, Tryz.f42, go_sem]) rfl ⟨rfl, (Far.refl _ w).alloc _⟩
theorem rnew_no (s : Int) (h : s < 1 ∨ 1024 < s) (w : World) : Calls Tryz.prog 42 #[.int .i64 s] w fun e w' => e = .returned (.tuple #[.agg #[.int .i64 0, .slice none 0 0], .int .i64 2]) ∧ Far (fun _ => False) w w' := by
  by_cases h1 : s < 1
  · clear h
    go_enter Tryz.func42, Tryz.ntmps42
    go_wp2_with fail
    (try simp only [Exit.inBlock, Exit.then])
    exact bodyPost_ret (v := .tuple #[.agg #[.int .i64 0, .slice none 0 0], .int .i64 2]) (by simp [results, Tryz.f42, go_sem]) rfl ⟨rfl, (Far.refl _ w).alloc _⟩
  · have h2 : (1024 : Int) < s := by omega
    clear h
    go_enter Tryz.func42, Tryz.ntmps42
    go_wp2_with fail
    (try simp only [Exit.inBlock, Exit.then])
    exact bodyPost_ret (v := .tuple #[.agg #[.int .i64 0, .slice none 0 0], .int .i64 2]) (by simp [results, Tryz.f42, go_sem]) rfl ⟨rfl, (Far.refl _ w).alloc _⟩
theorem rof_side (s : Nat) (h1 : 1 ≤ s) (h2 : s ≤ 1024) (ao : Option Addr) (n cap : Nat) (R C : Nat → Int) (hn : n ≤ cap) (hn2 : n ≤ 9223372036854775807) (w : World) (hC : Cls w ao n R C) :
    Calls Tryz.prog 28 #[.int .i64 (s : Nat), .slice ao n cap] w fun e w' => ∃ v, e = .returned (.tuple #[v, .int .i64 (ofE s n R C : Nat)]) ∧ Dm w' v (ofS s n R C) (ofM s n R C) ∧ Dn v w.heap.size ∧ Far (fun _ => False) w w' := by
  obtain ⟨h0, hh0⟩ : ∃ h, h = w.heap.size := ⟨_, rfl⟩
  obtain ⟨W0, hW0⟩ : ∃ V, V = w.alloc (.cells #[.int .i64 0, .slice none 0 0] 27) := ⟨_, rfl⟩
  have hF0 : Far (fun _ => False) w W0 := hW0 ▸ (Far.refl _ w).alloc _
  have hB0 : Bk W0 h0 27 #[.int .i64 0, .slice none 0 0] := hW0 ▸ Bk.new hh0
  have NW := rnew_yes s h1 h2 W0
  have hC' := Lib.hid hC
  have hh0' := Lib.hid hh0
  have hW0' := Lib.hid hW0
  have hF0' := Lib.hid hF0
  have hB0' := Lib.hid hB0
  clear hC hh0 hW0 hF0 hB0
  go_enter Tryz.func28, Tryz.ntmps28
  go_upto_region 1 with fail
  rw [← hW0'.out, ← hh0'.out]
  go_wp2_with fail
  refine NW.mono ?_
  rintro e W1 ⟨rfl, hf1⟩
  obtain ⟨h6, hh6⟩ : ∃ h, h = W1.heap.size := ⟨_, rfl⟩
  obtain ⟨W2, hW2⟩ : ∃ V, V = W1.alloc (.cells #[.int .i64 (s : Nat), .slice none 0 0] 27) := ⟨_, rfl⟩
  have hF2 : Far (fun _ => False) w W2 := hF0'.out.then (hf1.then (hW2 ▸ (Far.refl _ W1).alloc _))
  have hB2 : Bk W2 h6 27 #[.int .i64 (s : Nat), .slice none 0 0] := hW2 ▸ Bk.new hh6
  have hB02 : Bk W2 h0 27 #[.int .i64 0, .slice none 0 0] := (hB0'.out.far' hf1 id).far' (F := fun _ => False) (hW2 ▸ (Far.refl _ W1).alloc _) id
  have hh6' := Lib.hid hh6
  have hW2' := Lib.hid hW2
  have hF2' := Lib.hid hF2
  have hB2' := Lib.hid hB2
  have hB02' := Lib.hid hB02
  have hB2l := Lib.hid hB2.lt
  have hlt06 := Lib.hid (show h0 < h6 by rw [hh6]; exact (hB0'.out.far' hf1 id).lt)
  clear NW hf1 hh6 hW2 hF2 hB2 hB02 hB0' hF0'
  go_upto_region 2 with fail
  rw [← hW2'.out, ← hh6'.out]
  go_wp2_with fail
  go_loopw [8] (fun kv wr => ∃ k : Nat, k ≤ n ∧ kv = .int .i64 (k : Nat) ∧ (∀ q, q < k → cellOK s R C q = true) ∧ Far (fun _ => False) W2 wr) (fun kv _ => n - (intOf kv).toNat)
  case atStart => exact ⟨0, Nat.zero_le _, rfl, fun q hq => by omega, Far.refl _ _⟩
  case round =>
    obtain ⟨k, hk, rfl, hok, hf⟩ := hrel
    obtain ⟨wi, hwi⟩ : ∃ wi, wi = wr := ⟨_, rfl⟩
    rw [← hwi] at hf ⊢
    clear hwi
    have hB6 := hB2'.out.far' hf id
    have hB0 := hB02'.out.far' hf id
    by_cases hlt : k < n
    · have hki : (k : Int) < (n : Int) := by omega
      obtain ⟨g, off, rfl, hg, hc⟩ := (hC'.out.move (hF2'.out.then hf)) (by omega)
      obtain ⟨c0, c1⟩ := hc k hlt
      have HK := Lib.hid (show ∀ w2, Far (fun _ => False) wi w2 → w2.cell? ⟨g, off + k * 2, none⟩ = some (.int .i64 (R k)) ∧ w2.cell? ⟨g, off + k * 2 + 1, none⟩ = some (.int .i64 (C k)) ∧ w2.cell? ⟨h6, 0, none⟩ = some (.int .i64 (s : Nat)) ∧ w2.cell? ⟨h6, 1, none⟩ = some (.slice none 0 0) from fun w2 hf2 => ⟨(cell_eq (hf2.block g hg id)).trans c0, (cell_eq (hf2.block g hg id)).trans c1, (hB6.far' hf2 id).cell 0, (hB6.far' hf2 id).cell 1⟩)
      obtain ⟨r0, r1, r2, r3⟩ := HK.out wi (Far.refl _ _)
      obtain ⟨i, hi⟩ : ∃ i, R k = i := ⟨_, rfl⟩
      obtain ⟨j, hj⟩ : ∃ j, C k = j := ⟨_, rfl⟩
      have hck : cellOK s R C k = decide (0 ≤ i ∧ i < s ∧ 0 ≤ j ∧ j < s) := by unfold cellOK; rw [hi, hj]
      simp only [hi, hj] at r0 r1 HK
      have IN := fun i w => rin_any s (.slice none 0 0) i w
      obtain ⟨p, hp⟩ : ∃ p, (decide (0 ≤ i) && decide (i < (s : Int))) = p := ⟨_, rfl⟩
      obtain ⟨q, hq⟩ : ∃ q, (decide (0 ≤ j) && decide (j < (s : Int))) = q := ⟨_, rfl⟩
      have IN1 := IN i
      have IN2 := IN j
      rw [hp] at IN1
      rw [hq] at IN2
      replace hck : cellOK s R C k = (p && q) := by
        rw [hck, ← hp, ← hq, Bool.eq_iff_iff]
        simp only [decide_eq_true_eq, Bool.and_eq_true]
        exact ⟨fun ⟨a, b, c, d⟩ => ⟨⟨a, b⟩, c, d⟩, fun ⟨⟨a, b⟩, c, d⟩ => ⟨a, b, c, d⟩⟩
      have hck' := Lib.hid hck
      have hok' := Lib.hid hok
      have hf' := Lib.hid hf
      have hB6' := Lib.hid hB6
      have hB0' := Lib.hid hB0
      have IN1' := Lib.hid IN1
      have IN2' := Lib.hid IN2
      clear hck hok hf hB6 hB0 hc c0 c1 hi hj IN IN1 IN2 hp hq
      go_upto_region 7 with fail
      obtain ⟨nb, hnb⟩ : ∃ b, b = !(p && q) := ⟨_, rfl⟩
      have hnb' := Lib.hid hnb
      clear hnb
      go_cut [41] (fun tv wc => tv = .bool nb ∧ Far (fun _ => False) wi wc)
      case first =>
        cases p with
        | false =>
          refine quiet_far (by kernel_rfl) (by kernel_rfl) ?_
          go_big_quiet_want; refine l_val (.agg #[.int .i64 (s : Nat), .slice none 0 0]) (fun w' hw' => by obtain ⟨q0, q1, q2, q3⟩ := HK.out w' hw'; go_simp) ?_; go_simp; go_big_quiet_on
          go_big_quiet_want; refine l_val (.slice (some ⟨g, off, none⟩) n cap) (fun w' hw' => by go_simp) ?_; go_simp; go_big_quiet_on
          go_big_quiet_want; refine l_val (.int .i64 (k : Nat)) (fun w' hw' => by go_simp) ?_; go_simp; go_big_quiet_on
          go_big_quiet_want; refine l_val (.pointer (some ⟨g, off + k * 2, none⟩)) (fun w' hw' => by go_simp) ?_; go_simp; go_big_quiet_on
          go_big_quiet_want; refine l_val (.pointer (some ⟨g, off + k * 2, none⟩)) (fun w' hw' => by go_simp) ?_; go_simp; go_big_quiet_on
          go_big_quiet_want; refine l_val (.int .i64 i) (fun w' hw' => by obtain ⟨q0, q1, q2, q3⟩ := HK.out w' hw'; go_simp) ?_; go_simp; go_big_quiet_on
          go_big_quiet_want; refine l_call (.bool false) _ #[.agg #[.int .i64 (s : Nat), .slice none 0 0], .int .i64 i] (fun w' => by go_simp) (fun w' hw' => (IN1'.out w').mono fun e w2 h => ⟨h.1, hw'.then h.2⟩) ?_; go_simp; go_big_quiet_on
          go_big_quiet_want; refine l_val (.bool true) (fun w' hw' => by go_simp) ?_; go_simp; go_big_quiet_on
          go_big_quiet_want; refine l_val (.bool true) (fun w' hw' => by go_simp) ?_; go_simp; go_big_quiet_on
          go_big_quiet_skip
          go_big_quiet_skip
          go_big_quiet_skip
          go_big_quiet_skip
          go_big_quiet_skip
          go_big_quiet_skip
          go_big_quiet_skip
          go_big_quiet_skip
          go_big_quiet_want; refine l_val (.bool true) (fun w' hw' => by go_simp) ?_; go_simp; go_big_quiet_on
          refine wpQuiet_nil ?_
          intro w' hw'
          go_wp2_with fail
          go_meet
          exact ⟨by rw [hnb'.out]; cases q <;> rfl, hw'⟩
        | true =>
          refine quiet_far (by kernel_rfl) (by kernel_rfl) ?_
          go_big_quiet_want; refine l_val (.agg #[.int .i64 (s : Nat), .slice none 0 0]) (fun w' hw' => by obtain ⟨q0, q1, q2, q3⟩ := HK.out w' hw'; go_simp) ?_; go_simp; go_big_quiet_on
          go_big_quiet_want; refine l_val (.slice (some ⟨g, off, none⟩) n cap) (fun w' hw' => by go_simp) ?_; go_simp; go_big_quiet_on
          go_big_quiet_want; refine l_val (.int .i64 (k : Nat)) (fun w' hw' => by go_simp) ?_; go_simp; go_big_quiet_on
          go_big_quiet_want; refine l_val (.pointer (some ⟨g, off + k * 2, none⟩)) (fun w' hw' => by go_simp) ?_; go_simp; go_big_quiet_on
          go_big_quiet_want; refine l_val (.pointer (some ⟨g, off + k * 2, none⟩)) (fun w' hw' => by go_simp) ?_; go_simp; go_big_quiet_on
          go_big_quiet_want; refine l_val (.int .i64 i) (fun w' hw' => by obtain ⟨q0, q1, q2, q3⟩ := HK.out w' hw'; go_simp) ?_; go_simp; go_big_quiet_on
          go_big_quiet_want; refine l_call (.bool true) _ #[.agg #[.int .i64 (s : Nat), .slice none 0 0], .int .i64 i] (fun w' => by go_simp) (fun w' hw' => (IN1'.out w').mono fun e w2 h => ⟨h.1, hw'.then h.2⟩) ?_; go_simp; go_big_quiet_on
          go_big_quiet_want; refine l_val (.bool false) (fun w' hw' => by go_simp) ?_; go_simp; go_big_quiet_on
          go_big_quiet_want; refine l_val (.bool false) (fun w' hw' => by go_simp) ?_; go_simp; go_big_quiet_on
          go_big_quiet_want; refine l_val (.agg #[.int .i64 (s : Nat), .slice none 0 0]) (fun w' hw' => by obtain ⟨q0, q1, q2, q3⟩ := HK.out w' hw'; go_simp) ?_; go_simp; go_big_quiet_on
          go_big_quiet_want; refine l_val (.slice (some ⟨g, off, none⟩) n cap) (fun w' hw' => by go_simp) ?_; go_simp; go_big_quiet_on
          go_big_quiet_want; refine l_val (.int .i64 (k : Nat)) (fun w' hw' => by go_simp) ?_; go_simp; go_big_quiet_on
          go_big_quiet_want; refine l_val (.pointer (some ⟨g, off + k * 2, none⟩)) (fun w' hw' => by go_simp) ?_; go_simp; go_big_quiet_on
          go_big_quiet_want; refine l_val (.pointer (some ⟨g, off + k * 2 + 1, none⟩)) (fun w' hw' => by go_simp) ?_; go_simp; go_big_quiet_on
          go_big_quiet_want; refine l_val (.int .i64 j) (fun w' hw' => by obtain ⟨q0, q1, q2, q3⟩ := HK.out w' hw'; go_simp) ?_; go_simp; go_big_quiet_on
          go_big_quiet_want; refine l_call (.bool q) _ #[.agg #[.int .i64 (s : Nat), .slice none 0 0], .int .i64 j] (fun w' => by go_simp) (fun w' hw' => (IN2'.out w').mono fun e w2 h => ⟨h.1, hw'.then h.2⟩) ?_; go_simp; go_big_quiet_on
          go_big_quiet_want; refine l_val (.bool (!q)) (fun w' hw' => by go_simp) ?_; go_simp; go_big_quiet_on
          go_big_quiet_want; refine l_val (.bool (!q)) (fun w' hw' => by go_simp) ?_; go_simp; go_big_quiet_on
          refine wpQuiet_nil ?_
          intro w' hw'
          go_wp2_with fail
          go_meet
          exact ⟨by rw [hnb'.out]; cases q <;> rfl, hw'⟩
      case rest =>
        obtain ⟨rfl, hfc⟩ := hcut
        obtain ⟨wd, hwd⟩ : ∃ wd, wd = wc := ⟨_, rfl⟩
        rw [← hwd] at hfc ⊢
        clear hwd
        have hfd := Lib.hid (hf'.out.then hfc)
        have hB0d := hB0'.out.far' hfc id
        cases nb with
        | false =>
          have hpq : (p && q) = true := by have := hnb'.out; cases h : (p && q) <;> simp [h] at this ⊢
          have hnext := Lib.hid (show ∀ q, q < k + 1 → cellOK s R C q = true from fun q9 h9 => by
            by_cases e : q9 = k
            · rw [e, hck'.out]; exact hpq
            · exact hok'.out q9 (by omega))
          have hkb : (k : Int) + 1 ≤ 9223372036854775807 := by omega
          clear hpq hfc hB0d r0 r1 r2 r3
          go_wp2_with fail
          go_roundw
          case rel => exact ⟨k + 1, by omega, by go_num, hnext.out, hfd.out⟩
          case measure => simp only [intOf]; omega
        | true =>
          have hpf : (p && q) = false := by have := hnb'.out; cases h : (p && q) <;> simp [h] at this ⊢
          have hno : okC s n R C = false := by
            cases h : okC s n R C
            · rfl
            · have := hck'.out
              rw [hpf] at this
              unfold okC at h
              rw [Bool.and_eq_true, List.all_eq_true] at h
              rw [h.2 k (List.mem_range.2 hlt)] at this
              cases this
          have d0 : wd.cell? ⟨h0, 0, none⟩ = some (.int .i64 0) := hB0d.cell 0
          have d1 : wd.cell? ⟨h0, 1, none⟩ = some (.slice none 0 0) := hB0d.cell 1
          have f0 := hB0d.free 0
          have f1 := hB0d.free 1
          have hno' := Lib.hid hno
          clear hfc hpf hno r0 r1 r2 r3
          go_wp2_with fail
          (try simp only [Exit.inBlock, Exit.then])
          have he : ofE s n R C = 2 := by unfold ofE; rw [hno'.out]; rfl
          have hs0 : ofS s n R C = 0 := by unfold ofS; rw [hno'.out]; rfl
          have hm0 : ofM s n R C = zeroM := by unfold ofM; rw [hno'.out]; rfl
          rw [he, hs0, hm0]
          obtain ⟨w7, hw7⟩ : ∃ V, V = (wd.setCell ⟨h0, 0, none⟩ (.int .i64 0)).setCell ⟨h0, 1, none⟩ (.slice none 0 0) := ⟨_, rfl⟩
          have hB7 : Bk w7 h0 27 #[.int .i64 0, .slice none 0 0] := hw7 ▸ (hB0d.set 0 _).set 1 _
          have hf7 : Far (fun _ => False) w w7 := hw7 ▸ ((hF2'.out.then hfd.out).set ⟨h0, 0, none⟩ _ (fun h => by rw [hh0'.out] at h; exact absurd h (Nat.lt_irrefl _))).set ⟨h0, 1, none⟩ _ (fun h => by rw [hh0'.out] at h; exact absurd h (Nat.lt_irrefl _))
          have c0 : w7.cell? ⟨h0, 0, none⟩ = some (.int .i64 0) := hB7.cell 0
          have c1 : w7.cell? ⟨h0, 1, none⟩ = some (.slice none 0 0) := hB7.cell 1
          rw [← hw7]
          exact bodyPost_ret (v := .tuple #[.agg #[.int .i64 0, .slice none 0 0], .int .i64 2]) (by simp [results, Tryz.f28, go_sem, c0, c1]) rfl ⟨_, rfl, Dm.none _, Dn.none _, hf7⟩
    · have e : k = n := by omega
      subst e
      have hyes : okC s k R C = true := okC_iff.2 ⟨by omega, fun q hq => of_decide_eq_true (hok q hq)⟩
      have hcs := (okC_iff.1 hyes).2
      have hPL := (hC'.out.move (hF2'.out.then hf)).list fun q hq => ⟨(hcs q hq).1, (hcs q hq).2.2.1⟩
      have ST := sorted_any _ (listC k R C) (Nat.le_refl _) k ao cap wi (listC_len k R C).symm hn hn2 (fun x hx => by
        have := putL_iff.1 (mem_listC.1 hx)
        obtain ⟨q, hq, h1, h2⟩ := this
        have := hcs q hq
        omega) hPL
      have hyes' := Lib.hid hyes
      have hf' := Lib.hid hf
      have hB6' := Lib.hid hB6
      have hB0' := Lib.hid hB0
      have hw' := Lib.hid (show ∀ r c, putL (fun k => (R k).toNat) (fun k => (C k).toNat) k r c = true → r < s ∧ c < s from fun r c h => by
        obtain ⟨q, hq, h1, h2⟩ := putL_iff.1 h
        have := hcs q hq
        omega)
      clear hyes hf hB6 hB0 hPL hcs hok
      go_wp2_with fail
      refine ST.mono ?_
      rintro e w5 ⟨v, rfl, o, hown, hr, hm, hlen, hf5⟩
      obtain ⟨vo, vc, rfl⟩ := q_form hown
      have hB65 := hB6'.out.far' hf5 id
      have hB05 := hB0'.out.far' hf5 id
      have hown' := Lib.hid hown
      have hr' := Lib.hid hr
      have hm' := Lib.hid hm
      have hf5' := Lib.hid hf5
      obtain ⟨w6, hw6⟩ : ∃ V, V = w5.setCell ⟨h6, 1, none⟩ (.slice vo o.length vc) := ⟨_, rfl⟩
      have fr6 := hB65.free 1
      have d61 : w5.cell? ⟨h6, 1, none⟩ = some (.slice none 0 0) := hB65.cell 1
      have hB66 : Bk w6 h6 27 #[.int .i64 (s : Nat), .slice vo o.length vc] := hw6 ▸ hB65.set 1 _
      have n06 : h0 ≠ h6 := by have := hlt06.out; omega
      have hB06 : Bk w6 h0 27 #[.int .i64 0, .slice none 0 0] := hw6 ▸ hB05.far (p := ⟨h6, 1, none⟩) n06 _
      have hf6 : Far (fun q => q = h6) w5 w6 := hw6 ▸ (Far.refl _ w5).set _ _ fun _ => rfl
      have q0 : w6.cell? ⟨h6, 0, none⟩ = some (.int .i64 (s : Nat)) := hB66.cell 0
      have q1 : w6.cell? ⟨h6, 1, none⟩ = some (.slice vo o.length vc) := hB66.cell 1
      have d0 : w6.cell? ⟨h0, 0, none⟩ = some (.int .i64 0) := hB06.cell 0
      have d1 : w6.cell? ⟨h0, 1, none⟩ = some (.slice none 0 0) := hB06.cell 1
      have f0 := hB06.free 0
      have f1 := hB06.free 1
      have n60 : h6 ≠ h0 := fun e => n06 e.symm
      have hw6' := Lib.hid hw6
      have hf6' := Lib.hid hf6
      have hB06' := Lib.hid hB06
      clear ST hown hr hm hf5 hB65 hB05 hw6 hf6 hB66 hB06
      go_upto_region 10 with fail
      rw [← hw6'.out]
      clear d61 fr6
      go_wp2_with fail
      (try simp only [Exit.inBlock, Exit.then])
      have he : ofE s k R C = 0 := by unfold ofE; rw [if_pos hyes'.out]
      have hs0 : ofS s k R C = s := by unfold ofS; rw [if_pos hyes'.out]; exact Int.toNat_natCast s
      have hm0 : ofM s k R C = putL (fun k => (R k).toNat) (fun k => (C k).toNat) k := by unfold ofM; rw [if_pos hyes'.out]
      rw [he, hs0, hm0]
      obtain ⟨w7, hw7⟩ : ∃ V, V = (w6.setCell ⟨h0, 0, none⟩ (.int .i64 (s : Nat))).setCell ⟨h0, 1, none⟩ (.slice vo o.length vc) := ⟨_, rfl⟩
      have hB7 : Bk w7 h0 27 #[.int .i64 (s : Nat), .slice vo o.length vc] := hw7 ▸ (hB06'.out.set 0 _).set 1 _
      have e0 := hh0'.out
      have e6 := hlt06.out
      have hf67 : Far (fun q => q = h0) w6 w7 := hw7 ▸ ((Far.refl (fun q => q = h0) w6).set ⟨h0, 0, none⟩ _ fun _ => rfl).set ⟨h0, 1, none⟩ _ fun _ => rfl
      have hf57 : Far (fun q => q = h0 ∨ q = h6) w5 w7 := (hf6'.out.mono fun _ _ e => .inr e).trans hf67 fun _ _ e => .inl e
      have hf7 : Far (fun _ => False) w w7 := ((hF2'.out.then hf'.out).then hf5'.out).trans hf57 fun q hq e => by rcases e with rfl | rfl <;> omega
      have c0 : w7.cell? ⟨h0, 0, none⟩ = some (.int .i64 (s : Nat)) := hB7.cell 0
      have c1 : w7.cell? ⟨h0, 1, none⟩ = some (.slice vo o.length vc) := hB7.cell 1
      have ho7 := row_same hown'.out fun q hq hl => hf57.block q hl fun e => by
        obtain ⟨h1, _⟩ := own_type hown'.out hq
        have := (hF2'.out.then hf'.out).size
        have := hB2l.out
        have := (hf'.out).size
        rcases e with rfl | rfl <;> omega
      have hDn : Dn (.agg #[.int .i64 (s : Nat), .slice vo o.length vc]) w.heap.size := fun _ _ _ _ e a ha => by
        cases e
        subst ha
        obtain ⟨h1, _⟩ := own_type hown'.out (k := a.block) rfl
        have := (hF2'.out.then hf'.out).size
        omega
      rw [← hw7]
      exact bodyPost_ret (v := .tuple #[.agg #[.int .i64 (s : Nat), .slice vo o.length vc], .int .i64 0]) (by simp [results, Tryz.f28, go_sem, c0, c1]) rfl ⟨_, rfl, Dm.own h2 hw'.out hr'.out (fun x => (hm'.out x).trans mem_listC) ho7 rfl, hDn, hf7⟩
theorem rof_any (s : Int) (ao : Option Addr) (n cap : Nat) (R C : Nat → Int) (hn : n ≤ cap) (hn2 : n ≤ 9223372036854775807) (w : World) (hC : Cls w ao n R C) :
    Calls Tryz.prog 28 #[.int .i64 s, .slice ao n cap] w fun e w' => ∃ v, e = .returned (.tuple #[v, .int .i64 (ofE s n R C : Nat)]) ∧ Dm w' v (ofS s n R C) (ofM s n R C) ∧ Dn v w.heap.size ∧ Far (fun _ => False) w w' := by
  by_cases h : 1 ≤ s ∧ s ≤ 1024
  · obtain ⟨t, rfl⟩ : ∃ t : Nat, s = (t : Int) := ⟨s.toNat, by omega⟩
    exact rof_side t (by omega) (by omega) ao n cap R C hn hn2 w hC
  · have hno : okC s n R C = false := by
      cases h2 : okC s n R C
      · rfl
      · exact absurd (okC_iff.1 h2).1 h
    have he : ofE s n R C = 2 := by unfold ofE; rw [hno]; rfl
    have hs0 : ofS s n R C = 0 := by unfold ofS; rw [hno]; rfl
    have hm0 : ofM s n R C = zeroM := by unfold ofM; rw [hno]; rfl
    rw [he, hs0, hm0]
    obtain ⟨h0, hh0⟩ : ∃ h, h = w.heap.size := ⟨_, rfl⟩
    obtain ⟨W0, hW0⟩ : ∃ V, V = w.alloc (.cells #[.int .i64 0, .slice none 0 0] 27) := ⟨_, rfl⟩
    have hF0 : Far (fun _ => False) w W0 := hW0 ▸ (Far.refl _ w).alloc _
    have hB0 : Bk W0 h0 27 #[.int .i64 0, .slice none 0 0] := hW0 ▸ Bk.new hh0
    have NW := rnew_no s (by omega) W0
    have hh0' := Lib.hid hh0
    have hW0' := Lib.hid hW0
    have hF0' := Lib.hid hF0
    have hB0' := Lib.hid hB0
    clear hC hh0 hW0 hF0 hB0 he hs0 hm0 hno h
    go_enter Tryz.func28, Tryz.ntmps28
    go_upto_region 1 with fail
    rw [← hW0'.out, ← hh0'.out]
    go_wp2_with fail
    refine NW.mono ?_
    rintro e W1 ⟨rfl, hf1⟩
    obtain ⟨h6, hh6⟩ : ∃ h, h = W1.heap.size := ⟨_, rfl⟩
    obtain ⟨W2, hW2⟩ : ∃ V, V = W1.alloc (.cells #[.int .i64 0, .slice none 0 0] 27) := ⟨_, rfl⟩
    have hF2 : Far (fun _ => False) w W2 := hF0'.out.then (hf1.then (hW2 ▸ (Far.refl _ W1).alloc _))
    have hB02 : Bk W2 h0 27 #[.int .i64 0, .slice none 0 0] := (hB0'.out.far' hf1 id).far' (F := fun _ => False) (hW2 ▸ (Far.refl _ W1).alloc _) id
    have d0 : W2.cell? ⟨h0, 0, none⟩ = some (.int .i64 0) := hB02.cell 0
    have d1 : W2.cell? ⟨h0, 1, none⟩ = some (.slice none 0 0) := hB02.cell 1
    have f0 := hB02.free 0
    have f1 := hB02.free 1
    have hh6' := Lib.hid hh6
    have hW2' := Lib.hid hW2
    have hF2' := Lib.hid hF2
    have hB02' := Lib.hid hB02
    clear NW hf1 hh6 hW2 hF2 hB02 hB0' hF0'
    go_upto_region 2 with fail
    rw [← hW2'.out, ← hh6'.out]
    go_wp2_with fail
    (try simp only [Exit.inBlock, Exit.then])
    obtain ⟨w7, hw7⟩ : ∃ V, V = (W2.setCell ⟨h0, 0, none⟩ (.int .i64 0)).setCell ⟨h0, 1, none⟩ (.slice none 0 0) := ⟨_, rfl⟩
    have hB7 : Bk w7 h0 27 #[.int .i64 0, .slice none 0 0] := hw7 ▸ (hB02'.out.set 0 _).set 1 _
    have hf7 : Far (fun _ => False) w w7 := hw7 ▸ (hF2'.out.set ⟨h0, 0, none⟩ _ (fun h => by rw [hh0'.out] at h; exact absurd h (Nat.lt_irrefl _))).set ⟨h0, 1, none⟩ _ (fun h => by rw [hh0'.out] at h; exact absurd h (Nat.lt_irrefl _))
    have c0 : w7.cell? ⟨h0, 0, none⟩ = some (.int .i64 0) := hB7.cell 0
    have c1 : w7.cell? ⟨h0, 1, none⟩ = some (.slice none 0 0) := hB7.cell 1
    rw [← hw7]
    exact bodyPost_ret (v := .tuple #[.agg #[.int .i64 0, .slice none 0 0], .int .i64 2]) (by simp [results, Tryz.f28, go_sem, c0, c1]) rfl ⟨_, rfl, Dm.none _, Dn.none _, hf7⟩
end
end Go.Proofs.YtjolkhiggcmoiaaGreatDoor
