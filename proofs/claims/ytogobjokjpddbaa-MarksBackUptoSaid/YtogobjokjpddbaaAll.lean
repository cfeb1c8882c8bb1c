/-
  All: what the sequence of a text's marks hands out, for whatever body of a loop.
-/
import Derived.Test.YtogobjokjpddbaaBegins
import Derived.RangeFuncNested
import Derived.RangeFuncBound
import Derived.RangeFuncCalls
import Derived.RangeFuncLeaves
import Derived.Shelf.Abstract
import Derived.Shelf.RegionOpen
import Derived.WalkKit
import Derived.OwnWalkIn
import Derived.TacticsInMore
import Derived.LoopNIn
import Derived.LoopIn
namespace Go.Proofs.Ytogobjokjpddbaa
open Go.RowKit Go.Shelf
set_option linter.unusedVariables false
set_option linter.unusedSimpArgs false
attribute [local go_sem] Oper.semAt_some
/-- Block g of memory is just these cells. -/
def Bk (w : World) (g : Nat) (t : TypeId) (cs : Array Value) : Prop := w.heap[g]? = some (.cells cs t (0, 0))
theorem Bk.lt {w : World} {g : Nat} {t : TypeId} {cs : Array Value} (h : Bk w g t cs) : g < w.heap.size := (Array.getElem?_eq_some_iff.1 h).1
theorem Bk.new {w : World} {g : Nat} {t : TypeId} {cs : Array Value} (h : g = w.heap.size) : Bk (w.alloc (.cells cs t)) g t cs := by subst h; exact heap_alloc_new w _
theorem Bk.alloc {w : World} {g : Nat} {t : TypeId} {cs : Array Value} (h : Bk w g t cs) (o : Obj) : Bk (w.alloc o) g t cs := (heap_alloc_old w o h.lt).trans h
theorem Bk.below {w w' : World} {g B : Nat} {t : TypeId} {cs : Array Value} (h : Bk w g t cs) (hb : Below B w w') (hg : g < B) : Bk w' g t cs := (hb.block g hg).trans h
theorem Bk.cell {w : World} {g : Nat} {t : TypeId} {cs : Array Value} (h : Bk w g t cs) (i : Nat) : w.cell? ⟨g, i, none⟩ = cs[i]? := cell_of_row w g i cs t (0, 0) h
theorem Bk.free {w : World} {g : Nat} {t : TypeId} {cs : Array Value} (h : Bk w g t cs) (i : Nat) : w.frozen? ⟨g, i, none⟩ = false := frozen_of_row w g i cs t h
theorem Bk.set {w : World} {g : Nat} {t : TypeId} {cs : Array Value} (h : Bk w g t cs) (i : Nat) (u : Value) : Bk (w.setCell ⟨g, i, none⟩ u) g t (cs.setIfInBounds i u) := heap_setCell_same w g i cs t u h
theorem Bk.far {w : World} {g : Nat} {t : TypeId} {cs : Array Value} (h : Bk w g t cs) {p : Addr} (hp : g ≠ p.block) (u : Value) : Bk (w.setCell p u) g t cs := (heap_setCell_other w p g u hp).trans h
theorem Bk.grown {w w' : World} {g : Nat} {t : TypeId} {cs : Array Value} {row : Option Nat} (h : Bk w g t cs) (hg : w.grownBy w' row) (hne : some g ≠ row) : Bk w' g t cs := (hg.block g h.lt hne).trans h
theorem Bk.kept {w w' : World} {g : Nat} {t : TypeId} {cs : Array Value} {row : Option Nat} {B : Nat} (h : Bk w g t cs) (hg : w.grownBy w' row) (hr : ∀ r, row = some r → B ≤ r ∧ ∃ o : Obj, w.heap[r]? = some o ∧ o.isCells = false) : Bk w' g t cs :=
  h.grown hg fun e => by
    obtain ⟨_, o, ho, hc⟩ := hr g e.symm
    have : w.heap[g]? = some (.cells cs t (0, 0)) := h
    rw [this] at ho
    cases ho
    cases hc
/-- What a body must keep for an iterator that reads block b alone. -/
def KeepB (b : Nat) (A B : World) : Prop := B.heap[b]? = A.heap[b]?
theorem Bk.keep {w w' : World} {g : Nat} {t : TypeId} {cs : Array Value} (h : Bk w g t cs) (hk : KeepB g w w') : Bk w' g t cs := hk.trans h
/-- The marks of a text: kind, place, end. -/
def ml (s : ByteArray) : List (Nat × Nat × Nat) := (cut (byt s) s.size 0).1
theorem slice_at (s : ByteArray) (i e : Nat) (h : i ≤ e) (h' : e ≤ s.size) (w : World) :
    (Instr.slice 9 (.string s) (some (.int .i64 (i : Int))) (some (.int .i64 (e : Int))) none).run Try.prog w = .ok (.string (s.extract i e)) w := by
  have := run_slice_string (P := Try.prog) w 9 s .i64 .i64 (i : Int) (e : Int) Try.underlying9 (by omega) (by omega) (by omega)
  simpa using this
def mv (s : ByteArray) (x : Nat × Nat × Nat) : Value := .agg #[.int .i64 (x.1 : Int), .int .i64 (x.2.1 : Int), .string (s.extract x.2.1 x.2.2)]
/-- A mark that may be one of the text's, as it is; any other counts as none. -/
def vm (s : ByteArray) (x : Nat × Nat × Nat) : Nat × Nat × Nat := if x.1 ≤ 12 ∧ x.2.1 ≤ x.2.2 ∧ x.2.2 ≤ s.size then x else (0, 0, 0)
theorem vm_ok {s : ByteArray} {x : Nat × Nat × Nat} (h : x.1 ≤ 12 ∧ x.2.1 ≤ x.2.2 ∧ x.2.2 ≤ s.size) : vm s x = x := if_pos h
theorem vm_le (s : ByteArray) (x : Nat × Nat × Nat) : (vm s x).1 ≤ 12 ∧ (vm s x).2.1 ≤ (vm s x).2.2 ∧ (vm s x).2.2 ≤ s.size := by
  unfold vm; split
  · assumption
  · exact ⟨by decide, Nat.le_refl _, Nat.zero_le _⟩
def encM (s : ByteArray) (x : Nat × Nat × Nat) : Array Value := #[mv s (vm s x)]
theorem skip_in (n : Nat) (s : ByteArray) (i : Nat) (w : World) (hs : s.size ≤ 140737488351232) (hi : i ≤ s.size) :
    CallsIn Fence.wide n Try.prog 23 #[.string s, .int .i64 i] w fun e w' => e = .returned (.int .i64 (run (byt s) s.size blankN i)) ∧ w' = w :=
  callsIn_wide.2 ((skip_any s i w hs hi).mono fun _ _ ⟨he, hw⟩ => ⟨he, hw.symm⟩)
theorem wordEnd_in (n : Nat) (s : ByteArray) (i : Nat) (w : World) (hs : s.size ≤ 140737488351232) (hi : i ≤ s.size) :
    CallsIn Fence.wide n Try.prog 30 #[.string s, .int .i64 i] w fun e w' => e = .returned (.int .i64 (run (byt s) s.size innerN i)) ∧ w' = w :=
  callsIn_wide.2 ((wordEnd_any s i w hs hi).mono fun _ _ ⟨he, hw⟩ => ⟨he, hw.symm⟩)
theorem kind_in (n : Nat) (c : Nat) (w : World) (h : c < 256) : CallsIn Fence.wide n Try.prog 28 #[.int .u8 c] w fun e w' => e = .returned (.int .i64 (kindN c)) ∧ w' = w :=
  callsIn_wide.2 ((kind_any c w h).mono fun _ _ ⟨he, hw⟩ => ⟨he, hw.symm⟩)
theorem isWord_in (n : Nat) (k : Nat) (w : World) : CallsIn Fence.wide n Try.prog 29 #[.int .i64 k] w fun e w' => e = .returned (.bool (wordK k)) ∧ w' = w :=
  callsIn_wide.2 ((isWord_any k w).mono fun _ _ ⟨he, hw⟩ => ⟨he, hw.symm⟩)
theorem mend_word {s : ByteArray} {i : Nat} (hi : i < s.size) (hk : wordK (kindN (byt s i)) = true) : run (byt s) s.size innerN i = mend (byt s) s.size i := by
  have h : innerN (byt s i) = true := by rw [innerN_kind]; exact hk
  have h3 : kindN (byt s i) ≤ 3 := ((innerN_iff _).1 h).2
  unfold mend
  rw [if_pos h3, run_step _ _ hi h]
theorem mend_sign {s : ByteArray} {i : Nat} (h0 : kindN (byt s i) ≠ 0) (hk : wordK (kindN (byt s i)) = false) : i + 1 = mend (byt s) s.size i := by
  have h3 : ¬ kindN (byt s i) ≤ 3 := by
    have : ¬ (1 ≤ kindN (byt s i) ∧ kindN (byt s i) ≤ 3) := by simpa [wordK] using hk
    omega
  unfold mend
  rw [if_neg h3]
set_option maxRecDepth 100000 in
set_option maxHeartbeats 4000000 in
theorem all_stops (n : Nat) (hn : 2 ≤ n) (s : ByteArray) (hs : s.size ≤ 140737488351232) (bs : Nat) (w0 : World) (hbs : Bk w0 bs 9 #[.string s]) :
    SeqStopsK Fence.wide n Try.prog 27 #[.pointer (some ⟨bs, 0, none⟩)] (encM s) (KeepB bs) (fun xs => xs = ml s) (fun pre => pre <+: ml s) (ml s).length w0 := fun l J Jx W hW hJ hJx hY h0 => by
  have d := (hbs.below hW hbs.lt)
  have dc : W.cell? ⟨bs, 0, none⟩ = some (.string s) := d.cell 0
  have HY := Lib.hid hY
  clear hY hbs hJ hJx hW
  refine callsIn_of_wp Try.func27 rfl trivial ?_ rfl
  simp only [Try.ntmps27, List.size_toArray, List.length_cons, List.length_nil, Nat.reduceAdd, Nat.reduceSub, Array.replicate_succ, Array.replicate_zero, List.push_toArray, List.append_toArray, List.nil_append, List.cons_append]
  have hn1 : 1 ≤ n := by omega
  have SK : CallsIn Fence.wide (n - 1) Try.prog 23 #[.string s, .int .i64 0] W fun e w' => e = .returned (.int .i64 (run (byt s) s.size blankN 0)) ∧ w' = W := skip_in (n - 1) s 0 W hs (Nat.zero_le _)
  gi_wp2_with (refine ⟨trivial, ?_⟩; refine SK.mono ?_; rintro e w' ⟨rfl, rfl⟩)
  clear SK dc
  gi_loopw [3] (fun v wr => ∃ (i : Nat) (pre : List (Nat × Nat × Nat)), v = .int .i64 i ∧ i ≤ s.size ∧ (i < s.size → blankN (byt s i) = false) ∧ pre ++ (cut (byt s) s.size i).1 = ml s ∧ J pre wr ∧ Bk wr bs 9 #[.string s]) (fun v _ => s.size - (intOf v).toNat)
  case atStart =>
    refine ⟨_, [], rfl, run_le _ _ _ (Nat.zero_le _), fun h => run_at _ _ _ h, ?_, h0, d⟩
    rw [List.nil_append, ← cut_skip _ _ 0 _ rfl]; rfl
  case round =>
    clear h0 d
    obtain ⟨i, pre, rfl, hi, hnb, hpre, hJ, d⟩ := hrel
    have dc : wr.cell? ⟨bs, 0, none⟩ = some (.string s) := d.cell 0
    by_cases hlt : i < s.size
    · have hdk : decide ((i : Int) < (s.size : Int)) = true := by rw [decide_eq_true_eq]; omega
      have hc : s[i].toNat < 256 := UInt8.toNat_lt _
      have KI := kind_in (n - 1) s[i].toNat wr hc
      by_cases hk : kindN (byt s i) = 0
      · have hk' : ((kindN s[i].toNat : Int) == 0) = true := by rw [byt_eq hlt, hk]; rfl
        rw [cut_none _ _ hlt hk (hnb hlt), List.append_nil] at hpre
        have HP := Lib.hid hpre
        clear hpre hk hnb
        gi_wp2_with (refine ⟨trivial, ?_⟩; refine KI.mono ?_; rintro e w' ⟨rfl, rfl⟩)
        refine bodyPost_ret (results_none rfl _ _ _) rfl ?_
        exact ⟨⟨_, rfl⟩, .inl ⟨_, HP.out, hJ⟩⟩
      · have hk' : ((kindN s[i].toNat : Int) == 0) = false := by rw [byt_eq hlt]; simp; omega
        have hgt := mend_gt (byt s) s.size i
        have hle := mend_le (byt s) s.size hlt
        rw [cut_mark _ _ hlt hk] at hpre
        have hlen : pre.length < (ml s).length := by rw [← hpre]; simp
        have hvm : vm s (kindN s[i].toNat, i, mend (byt s) s.size i) = (kindN s[i].toNat, i, mend (byt s) s.size i) := vm_ok ⟨kindN_le _, Nat.le_of_lt hgt, hle⟩
        have hbyt := byt_eq hlt
        rw [← hbyt] at hpre hk
        have hpx : (pre ++ [(kindN s[i].toNat, i, mend (byt s) s.size i)]) <+: ml s := by
          rw [← hpre]; exact ⟨(cut (byt s) s.size (mend (byt s) s.size i)).1, by simp⟩
        have hnext : (pre ++ [(kindN s[i].toNat, i, mend (byt s) s.size i)]) ++ (cut (byt s) s.size (run (byt s) s.size blankN (mend (byt s) s.size i))).1 = ml s := by
          rw [← cut_skip _ _ _ _ rfl, ← hpre]; simp
        have hW1 := mend_word (s := s) hlt
        have hS1 := mend_sign (s := s) (i := i) (by rw [← hbyt]; exact hk)
        rw [← hbyt] at hW1 hS1
        have WE := wordEnd_in (n - 1) s i wr hs hi
        have WI := isWord_in (n - 1) (kindN s[i].toNat) wr
        have hb1 := run_le (byt s) s.size blankN hle
        have hb2 := run_at (byt s) s.size blankN (i := mend (byt s) s.size i)
        have hb3 := run_ge (byt s) s.size blankN (mend (byt s) s.size i)
        have SK := fun W => skip_in (n - 1) s (mend (byt s) s.size i) W hs hle
        generalize mend (byt s) s.size i = e at *
        generalize run (byt s) s.size blankN e = j at *
        obtain ⟨fn, tmps, assign, body, hy, hR⟩ := HY.out pre (kindN s[i].toNat, i, e) wr hJ hlen
        have HN := Lib.hid hnext
        have HP := Lib.hid hpx
        have HB := Lib.hid hb2
        clear hpre hlen hpx hnext hJ hnb hbyt hb2
        unfold encM at hy
        rw [hvm] at hy
        unfold mv at hy
        dsimp only at hy
        clear hvm
        cases hw : wordK (kindN s[i].toNat)
        · have HE := Lib.hid (hS1 hw)
          clear hW1 hS1 WE
          have he : (i : Int) + 1 = (e : Int) := by have := HE.out; omega
          have hsl := slice_at s i e (by omega) hle
          rw [← he] at hsl SK
          have HE' := Lib.hid he
          clear he
          have hle1 : (i : Int) + 1 ≤ s.size := by omega
          generalize kindN s[i].toNat = k at *
          gi_wp2_with (first | (refine ⟨trivial, ?_⟩; refine KI.mono ?_; rintro e w' ⟨rfl, rfl⟩) | (refine ⟨trivial, ?_⟩; refine WI.mono ?_; rintro e w' ⟨rfl, rfl⟩))
          refine hR.mono ?_
          rintro e' W3 (⟨rfl, hJ3, hk3⟩ | ⟨rfl, hJx3⟩)
          · have d3 := d.keep hk3
            have dc3 : W3.cell? ⟨bs, 0, none⟩ = some (.string s) := d3.cell 0
            gi_wp2_with (refine ⟨trivial, ?_⟩; refine (SK _).mono ?_; rintro e w' ⟨rfl, rfl⟩)
            go_roundw
            case rel => exact ⟨j, _, rfl, hb1, HB.out, HN.out, hJ3, d3⟩
            case measure => simp [intOf]; omega
          · gi_wp2
            refine bodyPost_ret (results_none rfl _ _ _) rfl ?_
            exact ⟨⟨_, rfl⟩, .inr ⟨_, HP.out, hJx3⟩⟩
        · have HE := Lib.hid (hW1 hw)
          rw [hW1 hw] at WE
          clear hW1 hS1
          have hsl := slice_at s i e (by omega) hle
          generalize kindN s[i].toNat = k at *
          gi_wp2_with (first | (refine ⟨trivial, ?_⟩; refine KI.mono ?_; rintro e w' ⟨rfl, rfl⟩) | (refine ⟨trivial, ?_⟩; refine WI.mono ?_; rintro e w' ⟨rfl, rfl⟩) | (refine ⟨trivial, ?_⟩; refine WE.mono ?_; rintro e w' ⟨rfl, rfl⟩))
          refine hR.mono ?_
          rintro e' W3 (⟨rfl, hJ3, hk3⟩ | ⟨rfl, hJx3⟩)
          · have d3 := d.keep hk3
            have dc3 : W3.cell? ⟨bs, 0, none⟩ = some (.string s) := d3.cell 0
            gi_wp2_with (refine ⟨trivial, ?_⟩; refine (SK _).mono ?_; rintro e w' ⟨rfl, rfl⟩)
            go_roundw
            case rel => exact ⟨j, _, rfl, hb1, HB.out, HN.out, hJ3, d3⟩
            case measure => simp [intOf]; omega
          · gi_wp2
            refine bodyPost_ret (results_none rfl _ _ _) rfl ?_
            exact ⟨⟨_, rfl⟩, .inr ⟨_, HP.out, hJx3⟩⟩
    · rw [cut_end _ _ (by omega), List.append_nil] at hpre
      have HP := Lib.hid hpre
      clear hpre hnb
      gi_wp2
      go_end0
      exact ⟨⟨_, rfl⟩, .inl ⟨_, HP.out, hJ⟩⟩
end Go.Proofs.Ytogobjokjpddbaa
