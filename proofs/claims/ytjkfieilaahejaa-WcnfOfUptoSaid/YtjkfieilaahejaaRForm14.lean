/-
  The document's form under way: Begin, Two, Symbol.
-/
import Derived.Test.YtjkfieilaahejaaFormMath14
import Derived.Deep.RegionHeld3
namespace Go.Proofs.Ytjkfieilaahejaa
open Go.RowKit
set_option linter.unusedVariables false
set_option linter.unusedSimpArgs false
theorem info_i : (Try.prog.info? 3).map (fun i => (i.zero.map (·.cells.size), i.size, i.bytes)) = some (some 1, 1, 8) := by kernel_rfl
theorem row_base {w : World} {base base' e size n : Nat} {v : Value} {xs : List Value} (h : w.ownsRow base e size v n xs) (hb : base' ≤ base) : w.ownsRow base' e size v n xs := ⟨h.1, h.2.imp id fun ⟨g, cap, cur, e, hg, r⟩ => ⟨g, cap, cur, e, Nat.le_trans hb hg, r⟩⟩
def lcells (lab : Nat → Option Nat) : List Value := (List.range 16).map fun k => .int .i64 (eI (lab k))
theorem lcells_none : lcells (fun _ => none) = List.replicate 16 (.int .i64 (-1)) := rfl
theorem lcells_at {lab : Nat → Option Nat} {k : Nat} (hk : k < 16) : (lcells lab)[k]? = some (.int .i64 (eI (lab k))) := by
  unfold lcells
  rw [List.getElem?_map, List.getElem?_range hk]
  rfl
theorem lcells_set {lab : Nat → Option Nat} {k m : Nat} (hk : k < 16) : (lcells lab).set k (.int .i64 (m : Int)) = lcells (updL lab k m) := by
  apply List.ext_getElem?
  intro j
  by_cases hj : j < 16
  · rw [lcells_at hj]
    by_cases e : k = j
    · subst e
      rw [List.getElem?_set_self (by unfold lcells; simpa using hk)]
      unfold updL; rw [if_pos rfl]; rfl
    · rw [List.getElem?_set_ne e, lcells_at hj]
      unfold updL; rw [if_neg fun q => e q.symm]
  · rw [List.getElem?_eq_none (by unfold lcells; simp; omega), List.getElem?_eq_none (by unfold lcells; simp; omega)]
/-- A body in the old memory, or in a block of symbols. -/
def QB (w : World) (B : Nat) (v : Value) (l : List Sy) : Prop := Body w v l ∧ ∀ a n c, v = .slice (some a) n c → l ≠ [] → a.block < w.heap.size ∧ (a.block < B ∨ ∃ cs fr, w.heap[a.block]? = some (.cells cs 50 fr))
theorem QB.go {w w' : World} {F : Nat → Prop} {B : Nat} {v : Value} {l : List Sy} (h : QB w B v l) (hf : Far F w w') (hF : ∀ k, k < w.heap.size → F k → B ≤ k ∧ NoSym w k) : QB w' B v l := by
  have key : ∀ a n c, v = .slice (some a) n c → l ≠ [] → ¬ F a.block := fun a n c e hl q => by
    obtain ⟨h3, h4⟩ := h.2 a n c e hl
    obtain ⟨h5, h6⟩ := hF _ h3 q
    rcases h4 with h4 | ⟨cs, fr, h4⟩
    · omega
    · exact h6 cs fr h4
  refine ⟨?_, fun a n c e hl => ?_⟩
  · obtain ⟨h1, h2 | ⟨a, c, rfl, h2⟩⟩ := h.1
    · exact ⟨h1, .inl h2⟩
    · refine ⟨h1, .inr ⟨a, c, rfl, fun j u hu => ?_⟩⟩
      have hl : l ≠ [] := fun e => by
        have := (List.getElem?_eq_some_iff.1 hu).1
        rw [scells_len, e] at this; simp at this
      obtain ⟨hb, hc⟩ := h2 j u hu
      exact ⟨Nat.lt_of_lt_of_le hb hf.size, (cell_eq (by rw [add_block]; exact hf.block _ hb (key a _ c rfl hl))).trans hc⟩
  · obtain ⟨h3, h4⟩ := h.2 a n c e hl
    exact ⟨Nat.lt_of_lt_of_le h3 hf.size, h4.imp id fun ⟨cs, fr, h5⟩ => ⟨cs, fr, (hf.block _ h3 (key a n c e hl)).trans h5⟩⟩
theorem QB.nil (w : World) (B : Nat) : QB w B (.slice none 0 0) [] := ⟨Src.nil _ _, fun a n c e => by cases e⟩
theorem QB.old {w w' : World} {v : Value} {l : List Sy} (h : Body w v l) (hf : Far (fun _ => False) w w') : QB w' w.heap.size v l := ⟨h.move hf, fun a n c e hl => by
  obtain ⟨s, hs⟩ : ∃ s, l[0]? = some s := by
    cases l with
    | nil => exact absurd rfl hl
    | cons s r => exact ⟨s, rfl⟩
  obtain ⟨g, off, c', e', hg, _⟩ := h.sym hs
  rw [e'] at e
  cases e
  exact ⟨Nat.lt_of_lt_of_le hg hf.size, .inl hg⟩⟩
theorem QB.new (w : World) (B : Nat) (l : List Sy) : QB (w.alloc (.cells (scells l).toArray 50)) B (.slice (some ⟨w.heap.size, 0, none⟩) l.length l.length) l := by
  have hb := heap_alloc_new w (.cells (scells l).toArray 50)
  refine ⟨⟨scells_len l, .inr ⟨_, _, rfl, fun j u hu => ⟨by simp, ?_⟩⟩⟩, fun a n c e _ => ?_⟩
  · exact World.news_of_block (w := w.alloc (.cells (scells l).toArray 50)) (cs := (scells l).toArray) (t := 50) (fr := (0, 0)) hb j u (by simpa using hu)
  · cases e
    exact ⟨by simp, .inr ⟨_, _, hb⟩⟩
/-- The document's form under way: its productions qv, its labels' helpers in block gL. -/
structure RM (w : World) (B gL cL : Nat) (qv : Value) (T : List Tr) (s : Fs) : Prop where
  row : w.ownsRow B 44 2 qv T.length (tcells T)
  lab : w.ownsRow B 3 1 (.slice (some ⟨gL, 0, none⟩) 16 cL) 16 (lcells s.lab)
  bod : ∀ t ∈ T, QB w B t.2.1 t.2.2
  pl : T.map pl = s.ps
  hi : B ≤ w.heap.size
theorem noSym_own {w : World} {B n sz k : Nat} {v : Value} {e : TypeId} {xs : List Value} (h : w.ownsRow B e sz v n xs) (he : e ≠ 50) (hk : v.ownBlock = some k) : NoSym w k := fun cs fr q => by
  rcases h.2 with ⟨h1, _⟩ | ⟨g, cap, cur, h1, _, h2, _⟩
  · rw [h1] at hk; cases hk
  · rw [h1] at hk
    obtain rfl : g = k := Option.some.inj hk
    rw [h2] at q
    cases q
    exact he rfl
theorem RM.go {w w' : World} {B gL cL : Nat} {F : Nat → Prop} {qv : Value} {T : List Tr} {s : Fs} (h : RM w B gL cL qv T s) (hf : Far F w w') (hF : ∀ k, k < w.heap.size → F k → B ≤ k ∧ NoSym w k ∧ qv.ownBlock ≠ some k ∧ k ≠ gL) : RM w' B gL cL qv T s where
  row := row_same h.row fun k hk hl => hf.block k hl fun q => (hF k hl q).2.2.1 hk
  lab := row_same h.lab fun k hk hl => hf.block k hl fun q => (hF k hl q).2.2.2 (Option.some.inj hk).symm
  bod := fun t ht => (h.bod t ht).go hf fun k hl q => ⟨(hF k hl q).1, (hF k hl q).2.1⟩
  pl := h.pl
  hi := Nat.le_trans h.hi hf.size
theorem RM.move {w w' : World} {B gL cL : Nat} {qv : Value} {T : List Tr} {s : Fs} (h : RM w B gL cL qv T s) (hf : Far (fun _ => False) w w') : RM w' B gL cL qv T s := h.go hf fun _ _ q => q.elim
/-- A store to a box of another type. -/
theorem RM.box {w w' : World} {B gL cL k : Nat} {t : TypeId} {cs : Array Value} {qv : Value} {T : List Tr} {s : Fs} (h : RM w B gL cL qv T s) (hk : Bk w k t cs) (h1 : t ≠ 50) (h2 : 44 ≠ t) (h3 : 3 ≠ t) (hB : B ≤ k) (hf : Far (fun i => i = k) w w') : RM w' B gL cL qv T s :=
  h.go hf fun i _ e => by
    subst e
    exact ⟨hB, noSym_bk hk h1, own_ne h.row hk h2, fun e => own_ne h.lab hk h3 (e ▸ rfl)⟩
theorem RM.lbl {w : World} {B gL cL : Nat} {qv : Value} {T : List Tr} {s : Fs} (h : RM w B gL cL qv T s) {k : Nat} (hk : k < 16) : w.cell? ⟨gL, k, none⟩ = some (.int .i64 (eI (s.lab k))) ∧ w.frozen? ⟨gL, k, none⟩ = false := by
  have h1 := World.ownsRow.cells h.lab (g := gL) rfl k _ (lcells_at hk)
  have e : (⟨gL, 0, none⟩ : Addr).add k = ⟨gL, k, none⟩ := by simp [Addr.add]; try omega
  rw [e] at h1
  refine ⟨h1, ?_⟩
  rcases h.lab.2 with ⟨h2, _⟩ | ⟨g, cap, cur, h2, _, hg, _⟩
  · cases h2
  · cases h2
    exact frozen_of_row w gL k cur _ hg
section
set_option maxHeartbeats 8000000
set_option maxRecDepth 100000
theorem begin_any (n : Nat) (w : World) : Calls Try.prog 39 #[.int .i64 (n : Int)] w fun e w' => ∃ gL cL, e = .returned (.agg #[.int .i64 (n : Int), .slice none 0 0, .slice (some ⟨gL, 0, none⟩) 16 cL, .int .i64 (-1)]) ∧ RM w' w.heap.size gL cL (.slice none 0 0) [] (Fs0 n) ∧ Far (fun _ => False) w w' := by
  obtain ⟨kR, hkR⟩ : ∃ k, k = w.heap.size := ⟨_, rfl⟩
  obtain ⟨kF, hkF⟩ : ∃ k, k = kR + 1 := ⟨_, rfl⟩
  obtain ⟨w0, hw0⟩ : ∃ w0, w0 = w.alloc (.cells #[.int .i64 0, .slice none 0 0, .slice none 0 0, .int .i64 0] 70) := ⟨_, rfl⟩
  obtain ⟨W, hW⟩ : ∃ W, W = w0.alloc (.cells #[.int .i64 (n : Int), .slice none 0 0, .slice none 0 0, .int .i64 (-1)] 70) := ⟨_, rfl⟩
  have z0 : w0.heap.size = kF := by rw [hw0]; simp [hkF, hkR]
  have hR : Bk W kR 70 #[.int .i64 0, .slice none 0 0, .slice none 0 0, .int .i64 0] := hW ▸ (hw0 ▸ Bk.new hkR : Bk w0 kR 70 #[.int .i64 0, .slice none 0 0, .slice none 0 0, .int .i64 0]).alloc _
  have hX : Bk W kF 70 #[.int .i64 (n : Int), .slice none 0 0, .slice none 0 0, .int .i64 (-1)] := hW ▸ Bk.new z0.symm
  have hF : Far (fun _ => False) w W := hW ▸ (hw0 ▸ alloc_far0 _ _ : Far (fun _ => False) w w0).alloc _
  have hzW : W.heap.size = kF + 1 := by rw [hW]; simp [z0]
  have hne : kR ≠ kF := by omega
  have hkR' := Lib.hid hkR
  have hkF' := Lib.hid hkF
  have hw0' := Lib.hid hw0
  have hW' := Lib.hid hW
  have z0' := Lib.hid z0
  have hR' := Lib.hid hR
  have hX' := Lib.hid hX
  have hF' := Lib.hid hF
  have hzW' := Lib.hid hzW
  clear hkR hkF hw0 hW z0 hR hX hF hzW
  go_enter Try.func39, Try.ntmps39
  go_upto_region 1 with fail
  rw [← hkR'.out, ← hw0'.out]
  go_upto_region 2 with fail
  rw [z0'.out, ← hW'.out]
  go_wp2_with fail
  go_loopw [4] (fun iv wr => ∃ (i : Nat) (lv : Value), iv = .int .i64 i ∧ i ≤ 16 ∧ Hid (Bk wr kF 70 #[.int .i64 (n : Int), .slice none 0 0, lv, .int .i64 (-1)]) ∧ Hid (wr.ownsRow W.heap.size 3 1 lv i (List.replicate i (.int .i64 (-1)))) ∧ Far (fun k => k = kF) W wr) (fun iv _ => 16 - (intOf iv).toNat)
  case atStart => exact ⟨0, .slice none 0 0, rfl, Nat.zero_le _, hX', Lib.hid (World.ownsRow_nil _ _ _ _), Far.refl _ _⟩
  case round =>
    obtain ⟨i, lv, rfl, hi, hXr, hown, hfw⟩ := hrel
    by_cases hlt : i < 16
    · have e1 : decide ((i : Int) < 16) = true := by rw [decide_eq_true_eq]; omega
      have c2 : wr.cell? ⟨kF, 2, none⟩ = some lv := hXr.out.cell 2
      obtain ⟨pi, pz, pi1, pi2, pi3, pi4, pi5⟩ := info3 info_i
      have A7 : 0 < 1 := by decide
      have hqk := Lib.hid (show lv.ownBlock ≠ some kF from fun e => by have := (hown.out.lt _ e).1; have := hzW'.out; omega)
      have B1 := Lib.hid (hown.out.alloc (.cells #[.int .i64 (-1)] 3))
      have B2 := Lib.hid (src_new wr 3 [.int .i64 (-1)])
      have B3 := Lib.hid (show ∀ u ∈ [Value.int .i64 (-1)], u.oneCell' = true by simp [Value.oneCell'])
      have B4 : i + 1 ≤ maxLen := by unfold maxLen; omega
      have B5 : (i + 1) * 8 ≤ 140737488355328 := by omega
      have B6 : W.heap.size ≤ (wr.alloc (.cells #[.int .i64 (-1)] 3)).heap.size := by have := hfw.size; simp; omega
      have hqn := Lib.hid (show ∀ k, lv.ownBlock = some k → W.heap.size ≤ k from fun k e => (hown.out.lt k e).1)
      have hfw' := Lib.hid hfw
      clear hown hfw
      go_wp2_with (at_builtin; refine wpList_app rfl _ _ 33 rfl W.heap.size 3 pi pz 1 8 Try.underlying33 pi1 pi2 pi3 pi4 pi5 A7 lv i _ rfl B1.out (.slice (some ⟨wr.heap.size, 0, none⟩) 1 1) 1 _ rfl B2.out B3.out B4 B5 B6 ?_; intro v2 w5 ho5 hg5; obtain ⟨vo2, vc2, rfl⟩ := Src.form (Src.own ho5); have hO5 := Bk.grown (w := wr.alloc (.cells #[.int .i64 (-1)] 3)) (Bk.alloc hXr.out _) hg5 hqk.out; have u0 := hO5.cell 2; have u1 := hO5.free 2; have ho5' := Lib.hid ho5; have hg5' := Lib.hid hg5; have hO5' := Lib.hid hO5; clear ho5 hg5 hO5; simp at u0)
      have hS5 := (Far.refl (fun k => k = kF) w5).set ⟨kF, 2, none⟩ (.slice vo2 (i + 1) vc2) (fun _ => rfl)
      have hR6 := Lib.hid (show (w5.setCell ⟨kF, 2, none⟩ (.slice vo2 (i + 1) vc2)).ownsRow W.heap.size 3 1 (.slice vo2 (i + 1) vc2) (i + 1) (List.replicate (i + 1) (.int .i64 (-1))) by
        rw [List.replicate_succ']
        exact row_far ho5'.out hS5 fun k e q => by have := (ho5'.out.lt k e).1; have := hzW'.out; omega)
      have hF6 := Lib.hid ((hfw'.out.trans ((Far.refl (fun _ => False) wr).alloc _) (fun _ _ h => h.elim)).trans (grown_far hg5'.out) (fun k hk e => by have := hqn.out k e; omega) |>.trans hS5 fun _ _ h => h)
      have hO6 := Lib.hid (hO5'.out.set 2 (.slice vo2 (i + 1) vc2))
      clear u0 u1 c2 hS5
      go_roundw
      case rel => exact ⟨i + 1, .slice vo2 (i + 1) vc2, by go_num, by omega, hO6, hR6, hF6.out⟩
      case measure => simp [intOf]; omega
    · have e1 : decide ((i : Int) < 16) = false := by rw [decide_eq_false_iff_not]; omega
      have hin : i = 16 := by omega
      have hown2 := hown.out
      rw [hin] at hown2
      obtain ⟨gL, cL, rfl, _, hgb, hgl⟩ := row_form hown2 (by decide)
      have c0 : wr.cell? ⟨kF, 0, none⟩ = some (.int .i64 (n : Int)) := hXr.out.cell 0
      have c1 : wr.cell? ⟨kF, 1, none⟩ = some (.slice none 0 0) := hXr.out.cell 1
      have c2 : wr.cell? ⟨kF, 2, none⟩ = some (.slice (some ⟨gL, 0, none⟩) 16 cL) := hXr.out.cell 2
      have c3 : wr.cell? ⟨kF, 3, none⟩ = some (.int .i64 (-1)) := hXr.out.cell 3
      have hRr := hR'.out.far' hfw hne
      have r0 : wr.cell? ⟨kR, 0, none⟩ = some (.int .i64 0) := hRr.cell 0
      have r1 : wr.cell? ⟨kR, 1, none⟩ = some (.slice none 0 0) := hRr.cell 1
      have r2 : wr.cell? ⟨kR, 2, none⟩ = some (.slice none 0 0) := hRr.cell 2
      have r3 : wr.cell? ⟨kR, 3, none⟩ = some (.int .i64 0) := hRr.cell 3
      have z0 : wr.frozen? ⟨kR, 0, none⟩ = false := hRr.free 0
      have z1 : wr.frozen? ⟨kR, 1, none⟩ = false := hRr.free 1
      have z2 : wr.frozen? ⟨kR, 2, none⟩ = false := hRr.free 2
      have z3 : wr.frozen? ⟨kR, 3, none⟩ = false := hRr.free 3
      have hRr' := Lib.hid hRr
      have hkw := Lib.hid (show w.heap.size ≤ kR by have := hkR'.out; omega)
      have hfx := Lib.hid (hF'.out.out hfw fun k hk e => by have := hkR'.out; have := hkF'.out; omega)
      have hfw' := Lib.hid hfw
      have hown' := Lib.hid hown2
      clear hown hown2 hfw hRr hin
      go_wp2_with fail
      have hS1 := (Far.refl (fun k => k = kR) wr).set ⟨kR, 0, none⟩ (.int .i64 (n : Int)) (fun _ => rfl)
      have hS2 := hS1.set ⟨kR, 1, none⟩ (.slice none 0 0) (fun _ => rfl)
      have hS3 := hS2.set ⟨kR, 2, none⟩ (.slice (some ⟨gL, 0, none⟩) 16 cL) (fun _ => rfl)
      have hS6 := hS3.set ⟨kR, 3, none⟩ (.int .i64 (-1)) (fun _ => rfl)
      have hB6 : Bk ((((wr.setCell ⟨kR, 0, none⟩ (.int .i64 (n : Int))).setCell ⟨kR, 1, none⟩ (.slice none 0 0)).setCell ⟨kR, 2, none⟩ (.slice (some ⟨gL, 0, none⟩) 16 cL)).setCell ⟨kR, 3, none⟩ (.int .i64 (-1))) kR 70 #[.int .i64 (n : Int), .slice none 0 0, .slice (some ⟨gL, 0, none⟩) 16 cL, .int .i64 (-1)] := (((hRr'.out.set 0 (.int .i64 (n : Int))).set 1 (.slice none 0 0)).set 2 (.slice (some ⟨gL, 0, none⟩) 16 cL)).set 3 _
      have hF6 := Lib.hid (hfx.out.out hS6 fun k hk e => by have := hkw.out; omega)
      have hM6 : Hid (RM ((((wr.setCell ⟨kR, 0, none⟩ (.int .i64 (n : Int))).setCell ⟨kR, 1, none⟩ (.slice none 0 0)).setCell ⟨kR, 2, none⟩ (.slice (some ⟨gL, 0, none⟩) 16 cL)).setCell ⟨kR, 3, none⟩ (.int .i64 (-1))) w.heap.size gL cL (.slice none 0 0) [] (Fs0 n)) := Lib.hid { row := World.ownsRow_nil _ _ _ _, lab := row_far (row_base hown'.out (by have := hF'.out.size; omega)) hS6 (fun k e q => by have := (hown'.out.lt k e).1; have := hzW'.out; have := hkF'.out; omega), bod := (fun t ht => by cases ht), pl := rfl, hi := hF6.out.size }
      clear c0 c1 c2 c3 r0 r1 r2 r3 z0 z1 z2 z3 hS1 hS2 hS3 hS6
      generalize ((((wr.setCell ⟨kR, 0, none⟩ (.int .i64 (n : Int))).setCell ⟨kR, 1, none⟩ (.slice none 0 0)).setCell ⟨kR, 2, none⟩ (.slice (some ⟨gL, 0, none⟩) 16 cL)).setCell ⟨kR, 3, none⟩ (.int .i64 (-1))) = W6 at *
      have c0 : W6.cell? ⟨kR, 0, none⟩ = some (.int .i64 (n : Int)) := hB6.cell 0
      have c1 : W6.cell? ⟨kR, 1, none⟩ = some (.slice none 0 0) := hB6.cell 1
      have c2 : W6.cell? ⟨kR, 2, none⟩ = some (.slice (some ⟨gL, 0, none⟩) 16 cL) := hB6.cell 2
      have c3 : W6.cell? ⟨kR, 3, none⟩ = some (.int .i64 (-1)) := hB6.cell 3
      exact bodyPost_ret (v := .agg #[.int .i64 (n : Int), .slice none 0 0, .slice (some ⟨gL, 0, none⟩) 16 cL, .int .i64 (-1)]) (by simp [results, Try.f39, go_sem, c0, c1, c2, c3]) rfl ⟨gL, cL, rfl, hM6.out, hF6.out⟩
theorem two_any (h x y : Int) (w : World) : Calls Try.prog 61 #[.int .i64 h, .int .i64 x, .int .i64 y] w fun e w' => ∃ v, e = .returned (.agg #[.int .i64 h, v]) ∧ (∀ B, B ≤ w.heap.size → QB w' B v [(false, x), (false, y)]) ∧ Far (fun _ => False) w w' := by
  obtain ⟨kR, hkR⟩ : ∃ k, k = w.heap.size := ⟨_, rfl⟩
  obtain ⟨w0, hw0⟩ : ∃ w0, w0 = w.alloc (.cells #[.int .i64 0, .slice none 0 0] 44) := ⟨_, rfl⟩
  have hFw : Far (fun _ => False) w w0 := hw0 ▸ alloc_far0 _ _
  have hR0 : Bk w0 kR 44 #[.int .i64 0, .slice none 0 0] := hw0 ▸ Bk.new hkR
  have r0 : w0.cell? ⟨kR, 0, none⟩ = some (.int .i64 0) := hR0.cell 0
  have r1 : w0.cell? ⟨kR, 1, none⟩ = some (.slice none 0 0) := hR0.cell 1
  have z0 : w0.frozen? ⟨kR, 0, none⟩ = false := hR0.free 0
  have z1 : w0.frozen? ⟨kR, 1, none⟩ = false := hR0.free 1
  have lR := hR0.lt
  have hne : kR ≠ w0.heap.size := by omega
  have hne2 : w0.heap.size ≠ kR := by omega
  obtain ⟨g, hg⟩ : ∃ g, g = w0.heap.size := ⟨_, rfl⟩
  have hkR' := Lib.hid hkR
  have hw0' := Lib.hid hw0
  have hg' := Lib.hid hg
  have hR0' := Lib.hid hR0
  have hFw' := Lib.hid hFw
  clear hkR hw0 hR0 hFw hg
  go_enter Try.func61, Try.ntmps61
  go_upto_region 1 with fail
  rw [← hkR'.out, ← hw0'.out]
  go_wp2_with fail
  have hS5 := (Far.refl (fun k => k = kR) w0).set ⟨kR, 0, none⟩ (.int .i64 h) (fun _ => rfl)
  have hS6 := hS5.set ⟨kR, 1, none⟩ (.slice (some ⟨w0.heap.size, 0, none⟩) 2 2) (fun _ => rfl)
  have hsz : ((w0.setCell ⟨kR, 0, none⟩ (.int .i64 h)).setCell ⟨kR, 1, none⟩ (.slice (some ⟨w0.heap.size, 0, none⟩) 2 2)).heap.size = w0.heap.size := by simp [World.setCell]
  have hB6 : Bk (((w0.setCell ⟨kR, 0, none⟩ (.int .i64 h)).setCell ⟨kR, 1, none⟩ (.slice (some ⟨w0.heap.size, 0, none⟩) 2 2)).alloc (.cells #[.bool false, .int .i64 x, .bool false, .int .i64 y] 50)) kR 44 #[.int .i64 h, .slice (some ⟨w0.heap.size, 0, none⟩) 2 2] := ((hR0'.out.set 0 (.int .i64 h)).set 1 _).alloc _
  have hF6 := Lib.hid ((hFw'.out.out hS6 fun k hk e => by have := hkR'.out; omega).then (alloc_far0 _ (.cells #[.bool false, .int .i64 x, .bool false, .int .i64 y] 50)))
  have hQ6 : Hid (∀ B, QB (((w0.setCell ⟨kR, 0, none⟩ (.int .i64 h)).setCell ⟨kR, 1, none⟩ (.slice (some ⟨w0.heap.size, 0, none⟩) 2 2)).alloc (.cells #[.bool false, .int .i64 x, .bool false, .int .i64 y] 50)) B (.slice (some ⟨((w0.setCell ⟨kR, 0, none⟩ (.int .i64 h)).setCell ⟨kR, 1, none⟩ (.slice (some ⟨w0.heap.size, 0, none⟩) 2 2)).heap.size, 0, none⟩) 2 2) [(false, x), (false, y)]) := Lib.hid (fun B => QB.new ((w0.setCell ⟨kR, 0, none⟩ (.int .i64 h)).setCell ⟨kR, 1, none⟩ (.slice (some ⟨w0.heap.size, 0, none⟩) 2 2)) B [(false, x), (false, y)])
  rw [hsz] at hQ6
  clear r0 r1 z0 z1 hS5 hS6 hsz
  generalize (((w0.setCell ⟨kR, 0, none⟩ (.int .i64 h)).setCell ⟨kR, 1, none⟩ (.slice (some ⟨w0.heap.size, 0, none⟩) 2 2)).alloc (.cells #[.bool false, .int .i64 x, .bool false, .int .i64 y] 50)) = W6 at *
  have hQ7 : ∀ B, QB W6 B (.slice (some ⟨w0.heap.size, 0, none⟩) 2 2) [(false, x), (false, y)] := hQ6.out
  have c0 : W6.cell? ⟨kR, 0, none⟩ = some (.int .i64 h) := hB6.cell 0
  have c1 : W6.cell? ⟨kR, 1, none⟩ = some (.slice (some ⟨w0.heap.size, 0, none⟩) 2 2) := hB6.cell 1
  exact bodyPost_ret (v := .agg #[.int .i64 h, .slice (some ⟨w0.heap.size, 0, none⟩) 2 2]) (by simp [results, Try.f61, go_sem, c0, c1]) rfl ⟨_, rfl, fun B _ => hQ7 B, hF6.out⟩
end
end Go.Proofs.Ytjkfieilaahejaa
