/-
  QLaws: QLaw02, QOf, QArg.
-/
import Derived.Test.YtjolkhiggcmoiaaGreatDoorQSame
import Derived.StillTailTactics
import Derived.ProofKit
import Derived.Deep.SlicePairs
/-! ## QLaw02: The laws' own helpers of layer 2: size, put; Of. -/
namespace Go.Proofs.YtjolkhiggcmoiaaGreatDoor
open Go.RowKit
set_option linter.unusedVariables false
set_option linter.unusedSimpArgs false
/-- A list of cells that was handed in. -/
def Cls (w : World) (ao : Option Addr) (n : Nat) (R C : Nat → Int) : Prop := 0 < n → ∃ g off, ao = some ⟨g, off, none⟩ ∧ g < w.heap.size ∧ ∀ k, k < n → w.cell? ⟨g, off + k * 2, none⟩ = some (.int .i64 (R k)) ∧ w.cell? ⟨g, off + k * 2 + 1, none⟩ = some (.int .i64 (C k))
theorem Cls.kept {w w' : World} {F : Nat → Prop} {ao : Option Addr} {n : Nat} {R C : Nat → Int} (h : Cls w ao n R C) (hf : Far F w w') (hF : ∀ a, ao = some a → ¬ F a.block) : Cls w' ao n R C := fun hn => by
  obtain ⟨g, off, rfl, hg, hc⟩ := h hn
  have hb := hf.block g hg (hF _ rfl)
  exact ⟨g, off, rfl, Nat.lt_of_lt_of_le hg hf.size, fun k hk => ⟨(cell_eq hb).trans (hc k hk).1, (cell_eq hb).trans (hc k hk).2⟩⟩
theorem Cls.move {w w' : World} {ao : Option Addr} {n : Nat} {R C : Nat → Int} (h : Cls w ao n R C) (hf : Far (fun _ => False) w w') : Cls w' ao n R C := h.kept hf fun _ _ h => h
/-- The cells of the first k of a list. -/
def putL (r c : Nat → Nat) : Nat → Nat → Nat → Bool
  | 0 => fun _ _ => false
  | k + 1 => putM (putL r c k) (r k) (c k)
theorem putL_iff {r c : Nat → Nat} {a b : Nat} : ∀ {k : Nat}, putL r c k a b = true ↔ ∃ q, q < k ∧ a = r q ∧ b = c q
  | 0 => by simp [putL]
  | k + 1 => by
    simp only [putL, putM, Bool.or_eq_true, Bool.and_eq_true, decide_eq_true_eq, putL_iff (k := k)]
    constructor
    · rintro (⟨q, hq, h⟩ | ⟨h1, h2⟩)
      · exact ⟨q, by omega, h⟩
      · exact ⟨k, by omega, h1, h2⟩
    · rintro ⟨q, hq, h1, h2⟩
      by_cases e : q = k
      · subst e; exact .inr ⟨h1, h2⟩
      · exact .inl ⟨q, by omega, h1, h2⟩
/-- A number taken by 1024, then by a side. -/
def red (s : Nat) (x : Int) : Nat := (x % 1024).toNat % s
theorem red_lt {s : Nat} (x : Int) (h : 0 < s) : red s x < s := Nat.mod_lt _ h
theorem i64_and1023 (n : Int) : bits .and .i64 n 1023 = n % 1024 := by
  have h1 : (BitVec.ofInt 64 1023).toNat = 2 ^ 10 - 1 := by decide
  have key : (BitVec.ofInt 64 n &&& BitVec.ofInt 64 1023).toNat = (n % ((2 ^ 64 : Nat) : Int)).toNat % 2 ^ 10 := by
    rw [BitVec.toNat_and, BitVec.toNat_ofInt, h1, Nat.and_two_pow_sub_one_eq_mod]
  show IntKind.i64.wrap ((BitVec.ofInt 64 n &&& BitVec.ofInt 64 1023).toNat : Nat) = _
  rw [key, IntKind.wrap_i64]
  omega
theorem red_tmod (s : Nat) (x : Int) (hs : s ≤ 1024) : (x % 1024).tmod (s : Int) = (red s x : Int) := by
  rw [Int.tmod_eq_emod_of_nonneg (by omega)]
  unfold red
  obtain ⟨m, hm⟩ : ∃ m : Nat, x % 1024 = (m : Int) := ⟨(x % 1024).toNat, by omega⟩
  rw [hm, Int.toNat_natCast]
  simp
section
set_option maxHeartbeats 4000000
set_option maxRecDepth 100000
theorem Mx.get {w : World} {B side : Nat} {F : Nat → Prop} {M : Nat → Nat → Bool} (h : Mx w B F side M) (i j : Nat) (hi : i < side) (hj : j < side) :
    Calls Tryz.prog 65 #[.pointer (some ⟨B, 0, none⟩), .int .i64 i, .int .i64 j] w fun e w' => e = .returned (.tuple #[.bool (M i j), .int .i64 0]) ∧ Far (fun _ => False) w w' := by
  obtain ⟨_, _, _, _, _, _, _, hq, _, _⟩ := h
  exact qget_yes hq i j hi hj
theorem putM_at (M : Nat → Nat → Bool) (i j : Nat) : putM M i j i j = true := by simp [putM]
theorem Mx.new {w w' : World} {k side l : Nat} (h1 : 1 ≤ side) (h2 : side ≤ 1024) (hl : l ≤ 4) (hw : side ≤ 64 * 2 ^ l) (h : Bk w' k 99 #[.int .i64 (side : Nat), .int .i64 (l : Nat), .int .i64 0, .slice none 0 0, .slice none 0 0]) : Mx w' k (Qf k (.slice none 0 0) (.slice none 0 0)) side (fun _ _ => false) :=
  ⟨l, 0, _, _, _, _, _, Qd.new h1 h2 hl hw h, fun p hp => (by cases hp), rfl⟩
theorem Qf_none {k q : Nat} (h : Qf k (.slice none 0 0) (.slice none 0 0) q) : q = k := by
  rcases h with e | e | e
  · exact e
  · cases e
  · cases e
end
end Go.Proofs.YtjolkhiggcmoiaaGreatDoor
/-! ## QOf: Of; what the document fixes. -/
namespace Go.Proofs.YtjolkhiggcmoiaaGreatDoor
open Go.RowKit
set_option linter.unusedVariables false
set_option linter.unusedSimpArgs false
section
set_option maxHeartbeats 4000000
set_option maxRecDepth 100000
theorem qof_yes (s : Nat) (hs1 : 1 ≤ s) (hs2 : s ≤ 1024) (ao : Option Addr) (n cap : Nat) (r c : Nat → Nat) (hn : n ≤ 9223372036854775807) (hr : ∀ k, k < n → r k < s ∧ c k < s) (w : World) (hC : Cls w ao n (fun k => (r k : Nat)) (fun k => (c k : Nat))) :
    Calls Tryz.prog 27 #[.int .i64 s, .slice ao n cap] w fun e w' => ∃ B', e = .returned (.tuple #[.pointer (some ⟨B', 0, none⟩), .int .i64 0]) ∧ ∃ F', Mx w' B' F' s (putL r c n) ∧ (∀ k, F' k → w.heap.size ≤ k) ∧ Far (fun _ => False) w w' := by
  have hC' := Lib.hid hC
  have hr' := Lib.hid hr
  clear hC hr
  go_enter Tryz.func27, Tryz.ntmps27
  go_wp2_with fail
  refine (qnew_yes s hs1 hs2 w).mono ?_
  rintro e w1 ⟨rfl, l, hl, hw, hB, hf1⟩
  have hM1 := Lib.hid (Mx.new (w := w) hs1 hs2 hl hw hB)
  have hf1' := Lib.hid hf1
  have hw1 := hB.lt
  clear hB hf1
  go_wp2_with fail
  go_loopw [22] (fun kv wr => ∃ k : Nat, k ≤ n ∧ kv = .int .i64 (k : Nat) ∧ (∃ F', Mx wr w.heap.size F' s (putL r c k) ∧ (∀ q, F' q → w.heap.size ≤ q)) ∧ Far (fun _ => False) w wr) (fun kv _ => n - (intOf kv).toNat)
  case atStart => exact ⟨0, Nat.zero_le _, rfl, ⟨_, hM1.out, fun q hq => by rw [Qf_none hq]; exact Nat.le_refl _⟩, hf1'.out⟩
  case round =>
    clear hM1 hf1'
    obtain ⟨k, hk, rfl, ⟨F1, hX, hF1⟩, hf⟩ := hrel
    by_cases hlt : k < n
    · obtain ⟨g, off, rfl, hg, hc⟩ := (hC'.out.move hf) (by omega)
      obtain ⟨c0, c1⟩ := hc k hlt
      obtain ⟨hil, hjl⟩ := hr'.out k hlt
      have dk : (k : Int) < (n : Int) := by omega
      have dk2 : (k : Int) + 1 ≤ 9223372036854775807 := by omega
      obtain ⟨i, hi⟩ : ∃ i, r k = i := ⟨_, rfl⟩
      obtain ⟨j, hj⟩ : ∃ j, c k = j := ⟨_, rfl⟩
      have hP : putL r c (k + 1) = putM (putL r c k) i j := by rw [← hi, ← hj]; rfl
      simp only [hi, hj] at c0 c1 hil hjl
      have hP' := Lib.hid hP
      have hX' := Lib.hid hX
      have hf' := Lib.hid hf
      have hF1' := Lib.hid hF1
      have hlt' := Lib.hid hlt
      clear hX hf hF1 hi hj hc hP
      go_wp2_with fail
      have hfa : Far (fun _ => False) wr (wr.alloc (.cells #[.int .i64 (i : Nat), .int .i64 (j : Nat)] 71)) := (Far.refl _ wr).alloc _
      have S1 := qset_yes (hX'.out.still hfa) i j hil hjl
      have hfa' := Lib.hid hfa
      clear hfa c0 c1
      refine S1.mono ?_
      rintro e w3 ⟨rfl, F2, hX3, hm3⟩
      have hX3' := Lib.hid hX3
      have hm3' := Lib.hid hm3
      clear S1 hX3 hm3
      go_wp2_with fail
      go_roundw
      case rel =>
        refine ⟨k + 1, by omega, by simp, ⟨F2, by rw [hP'.out]; exact hX3'.out, fun q hq => ?_⟩, ?_⟩
        · rcases hm3'.out.more q hq with h | h
          · exact hF1'.out q h
          · have := (hf'.out.then hfa'.out).size; omega
        · exact (hf'.out.then hfa'.out).trans hm3'.out.far fun q hq h => by have := hF1'.out q h; omega
      case measure => simp only [intOf]; have := hlt'.out; omega
    · have e : k = n := by omega
      subst e
      go_wp2_with fail
      go_ret2
      exact ⟨_, rfl, F1, hX, hF1, hf⟩
/-- The two cells of the document's example. -/
def awR (k : Nat) : Nat := if k = 0 then 0 else 70
def awC (k : Nat) : Nat := if k = 0 then 99 else 3
theorem aw_num : numM (putL awR awC 2) = 2 := by
  show numM (putM (putM (fun _ _ => false) 0 99) 70 3) = 2
  rw [numM_put (by decide) (by decide) (by simp [putM]), numM_put (by decide) (by decide) rfl, numM_zero]
end
end Go.Proofs.YtjolkhiggcmoiaaGreatDoor
/-! ## QArg: What every law of this seat shares: a list of cells as an argument; what the row asks behind the call. -/
namespace Go.Proofs.YtjolkhiggcmoiaaGreatDoor
open Go.ChangeShapes Go.WideShapes Go.ChangeAt Go.RowKit
set_option linter.unusedVariables false
set_option linter.unusedSimpArgs false

/-- v is a slice of cells: an empty one, or n cells in memory whose numbers are R k and C k. -/
def IsCells (w : World) (v : Value) (n : Nat) (R C : Nat → Int) : Prop :=
  (n = 0 ∧ ∃ a cap, v = .slice a 0 cap) ∨
  ∃ b off cap, v = .slice (some ⟨b, off, none⟩) n cap ∧ b < w.heap.size ∧
    ∀ k, k < n → w.cell? ⟨b, off + k * 2, none⟩ = some (.int .i64 (R k)) ∧ w.cell? ⟨b, off + k * 2 + 1, none⟩ = some (.int .i64 (C k))
set_option maxRecDepth 100000
theorem foldCell : Tryz.prog.cellsOf 71 = 2 := by kernel_rfl
theorem cellType : Tryz.prog.underlying 22 = some (.slice 71) := by kernel_rfl
theorem intType : Tryz.prog.underlying 3 = some (.int .i64) := by kernel_rfl
theorem boolType : Tryz.prog.underlying 4 = some .bool := by kernel_rfl
theorem cellFields : ∃ f0 f1 : Field, Tryz.prog.underlying 71 = some (.struct #[f0, f1]) ∧ f0.offset = 0 ∧ f1.offset = 1 ∧ f0.type = 3 ∧ f1.type = 3 := by
  exact ⟨_, _, Tryz.underlying71, rfl, rfl, rfl, rfl⟩
theorem intCells : Tryz.prog.cellsOf 3 = 1 := by kernel_rfl
theorem Tryz.laidOut : laidOutB Tryz.prog = true := by kernel_rfl
theorem Tryz.own : ownKnob Tryz.prog.godebug = none := by kernel_rfl

theorem add_none (b off n : Nat) : (⟨b, off, none⟩ : Addr).add n = ⟨b, off + n, none⟩ := by
  unfold Addr.add; split <;> simp_all

/-- A list of cells that came in. -/
theorem open_cells {H : Type} {enc : TypeId × Value → H} {w : World} {base : Nat} {r : Reach} {b0 : Nat} {v : Value} {d : DataW H} {ps : List MemPlace} (hv : Value.okWide Tryz.prog w r b0 22 v)
    (h : DataW.Trod enc Tryz.prog w base (fun _ => true) true 22 v d ps) : ∃ n R C, n ≤ 9223372036854775807 ∧ IsCells w v n R C := by
  obtain ⟨a0, len0, cap0, rfl⟩ := okWide_slice cellType hv
  obtain ⟨fuel, hf⟩ := h
  obtain ⟨f0, f1, hs, o0, o1, t0, t1⟩ := cellFields
  rcases Go.Deep.open_slice_pairs cellType hs foldCell o0 o1 (by rw [t0]; exact intCells) (by rw [t1]; exact intCells) hf with ⟨hc, _⟩ | ⟨a, len, cap, m, n, V0, V1, D0, D1, P0, P1, hc, hb, hl, hm, hmm, _, hi⟩
  · simp only [Value.cells, List.cons.injEq, Value.slice.injEq, and_true] at hc
    obtain ⟨_, rfl, _⟩ := hc
    exact ⟨0, fun _ => 0, fun _ => 0, by omega, .inl ⟨rfl, _, _, rfl⟩⟩
  · simp only [Value.cells, List.cons.injEq, Value.slice.injEq, and_true] at hc
    obtain ⟨rfl, hl1, hc1⟩ := hc
    subst hl1 hc1
    have hmax : cap0 ≤ 9223372036854775807 := by unfold maxLen at hm; omega
    simp only [if_true] at hmm
    subst hmm
    by_cases h0 : len0 = 0
    · subst h0
      exact ⟨0, fun _ => 0, fun _ => 0, by omega, .inl ⟨rfl, _, _, rfl⟩⟩
    · obtain ⟨b, off, spot⟩ := a
      have hsp : spot = none := by
        have := (hi 0 (by omega)).1
        cases spot with
        | none => rfl
        | some x =>
          simp only [Nat.zero_mul, Addr.add, if_true, World.cell?] at this
          split at this <;> simp at this
      subst hsp
      have hlt : b < w.heap.size := by
        have := block_lt_of_cell (hi 0 (by omega)).1
        rw [add_none] at this
        exact this
      refine ⟨len0, fun k => intOf (V0 k), fun k => intOf (V1 k), by omega, .inr ⟨b, off, _, rfl, hlt, fun k hk => ?_⟩⟩
      obtain ⟨c0, c1, g0, g1⟩ := hi k (by omega)
      rw [t0] at g0
      rw [t1] at g1
      obtain ⟨x, ex, _⟩ := DataW.trod_int intType g0
      obtain ⟨y, ey, _⟩ := DataW.trod_int intType g1
      simp only [List.cons.injEq, and_true] at ex ey
      rw [add_none] at c0 c1
      rw [ex] at c0
      rw [ey] at c1
      show _ = some (Value.int .i64 (intOf (V0 k))) ∧ _ = some (Value.int .i64 (intOf (V1 k)))
      rw [ex, ey]
      exact ⟨c0, by rw [Nat.add_assoc]; exact c1⟩

/-- Each argument reads behind the call as it read before it, where old memory is as it was. -/
theorem stay_all {H : Type} {enc : TypeId × Value → H} {P : Program} (hl : laidOutB P = true) {W W' : World} (hb : Below W.heap.size W W') (sp : Nat → Bool) :
    ∀ {ts : List TypeId} {vs : List Value} {ds : List (DataW H)} {ps : List MemPlace}, (∀ t ∈ ts, P.readableRec t = true ∧ t < P.types.size) →
      DataW.TrodAll enc P W 0 (fun _ => true) true ts vs ds ps → (∀ x ∈ ps, x.block < W.heap.size) → (∀ x ∈ ps, sp x.block = true) → DataW.TrodAll enc P W' 0 sp true ts vs ds ps
  | [], vs, ds, ps, _, h, _, _ => by
    obtain ⟨rfl, rfl, rfl⟩ := trodAll_nil h
    exact trodAll_mk0
  | t :: ts, vs, ds, ps, ht, h, hlt, hsp => by
    obtain ⟨v, vs', d, ds', p, q, rfl, rfl, rfl, h1, h2⟩ := trodAll_cons h
    have ht1 := ht t (by simp)
    have r1 := Go.WideElems.Trod_stays hl ht1.1 ht1.2 h1 (fun x hx => hb.same (hlt x (by simp [hx]))) (fun x hx => hsp x (by simp [hx]))
    have r2 := stay_all hl hb sp (fun t h => ht t (by simp [h])) h2 (fun x hx => hlt x (by simp [hx])) (fun x hx => hsp x (by simp [hx]))
    exact ⟨p, q, r1, r2, rfl⟩

/-- What the row of a law asks behind the call: it answered true, and old memory is as it was. -/
theorem law_post {H : Type} {enc : TypeId × Value → H} {f : Func} {s : ChangeSpec} {apart fresh handsOn again : Bool} {W W' : World} {args : Array Value} {ds gs : List (DataW H)} {before : List MemPlace}
    (hW : DataW.Whole enc Tryz.prog f.params.toList s.vars apart W args.toList ds gs before) (hvars : s.vars = [])
    (hts : ∀ t ∈ f.params.toList, Tryz.prog.readableRec t = true ∧ t < Tryz.prog.types.size) (hres : f.resultTypes = #[4])
    (hfn : s.fn H ds = { results := [.lit (.bool true)], args := ds }) (hb : Below W.heap.size W W') : s.post enc Tryz.prog f apart fresh handsOn again W args (.bool true) W' := by
  have hlt : ∀ p ∈ before, p.block < W.heap.size := fun p hp => hW.lt p hp
  obtain ⟨p, q, hA, hV, hpq, hz, hn⟩ := hW
  rw [hvars] at hV
  obtain ⟨rfl, rfl⟩ := trodVars_none hV
  simp only [List.append_nil] at hpq
  subst hpq
  have hfn' : s.fn H (ds ++ []) = { results := [.lit (.bool true)], args := ds } := by rw [List.append_nil]; exact hfn
  have hr : ∀ (b : Nat) (sp : Nat → Bool) (hd : Bool), DataW.TrodAll enc Tryz.prog W' b sp hd f.resultTypes.toList ((Value.bool true).resultList f.resultTypes.size) [.lit (.bool true)] [] := fun b sp hd => by
    rw [hres]; exact trodAll_mk1 (shut_bool boolType _)
  have ha : ∀ sp : Nat → Bool, (∀ x ∈ before, sp x.block = true) → DataW.TrodAll enc Tryz.prog W' 0 sp true f.params.toList args.toList ds before := fun sp hsp =>
    stay_all Tryz.laidOut hb sp hts hA hlt hsp
  have hv : ∀ sp : Nat → Bool, DataW.TrodVars enc Tryz.prog W' sp s.vars [] [] := fun sp => by rw [hvars]; rfl
  have hold : ∀ p ∈ before, (fun b => decide (b < W.heap.size)) p.block = true := fun p hp => by simpa using hlt p hp
  refine ⟨ds, [], before, [], before, [], ⟨before, [], hA, by rw [hvars]; rfl, by simp, hz, hn⟩, ?_, ?_, ?_, World.keptBut_mono (fun x hx => ⟨hx, .inr (by simpa using hx)⟩) (hb.frame (· ∈ before)), fun _ => ?_⟩
  · rw [hfn']; exact hr _ _ _
  · rw [hfn']; exact ha _ hold
  · rw [hfn']; exact hv _
  · refine ⟨ok_one hres rfl (okWide_bool_mk boolType _), _, _, ([] ++ before) ++ [], ⟨[] ++ before, [], trodAll_append (ha _ (fun _ _ => rfl)) (hr _ _ _), hv _, rfl, ?_, ?_⟩, ?_⟩
    · intro b off hp
      have hin : MemPlace.cell b off ∈ before := by simpa using hp
      rw [hb.frozen (hlt _ hin)]
      exact hz b off hin
    · intro hap
      simpa using hn hap
    · intro x hx _
      simpa using hx
/-- The same, as the laws take it. -/
theorem open_cls {H : Type} {enc : TypeId × Value → H} {w : World} {base : Nat} {r : Reach} {b0 : Nat} {v : Value} {d : DataW H} {ps : List MemPlace} (hv : Value.okWide Tryz.prog w r b0 22 v)
    (h : DataW.Trod enc Tryz.prog w base (fun _ => true) true 22 v d ps) : ∃ ao n cap R C, v = .slice ao n cap ∧ n ≤ 9223372036854775807 ∧ Cls w ao n R C := by
  obtain ⟨n, R, C, hn, hc⟩ := open_cells hv h
  rcases hc with ⟨rfl, a, cap, rfl⟩ | ⟨b, off, cap, rfl, hb, hc⟩
  · exact ⟨a, 0, cap, R, C, rfl, by omega, fun h => absurd h (Nat.lt_irrefl _)⟩
  · exact ⟨_, n, cap, R, C, rfl, hn, fun _ => ⟨b, off, rfl, hb, hc⟩⟩
theorem far_below {w w' : World} (h : Far (fun _ => False) w w') : Below w.heap.size w w' := h.below (Nat.le_refl _) fun _ _ h => h
end Go.Proofs.YtjolkhiggcmoiaaGreatDoor
