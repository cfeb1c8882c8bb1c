/-
  SppfFinds walked.
-/
import Derived.Test.YteoglnbmmgoibaaGreatDoorPacks22
namespace Go.Proofs.YteoglnbmmgoibaaGreatDoor
open Go.RowKit Go.Shelf
set_option linter.unusedVariables false
set_option linter.unusedSimpArgs false
attribute [local go_sem] Oper.semAt_some
/-- The slots of a round: the sequence's value, the loop's variable. -/
def pslots (T : Array Value) (p q : Nat) (x : Pk) (Bx : Nat) : Act := { tmps := (T.setIfInBounds p (pkv x)).setIfInBounds q (.pointer (some ⟨Bx, 0, none⟩)), defers := [] }
def pcs (x : Pk) : Array Value := #[.int .i64 x.1, .int .i64 x.2.1, .int .i64 x.2.2.1, .int .i64 x.2.2.2.1, .int .i64 x.2.2.2.2]
def FT (bn bq : Nat) (k : Nat) : Prop := k = bn ∨ k = bq
def PTurn (P : List Pk) (W0 : World) (bn bq : Nat) (pre : List Pk) (W : World) : Prop :=
  Far (FT bn bq) W0 W ∧ Bk W bn 3 #[.int .i64 (pre.length : Int)] ∧ Bk W bq 4 #[.bool false] ∧ pre <+: P
def QTurn (P : List Pk) (W0 : World) (bn bq : Nat) (c : Code) (pre : List Pk) (W : World) : Prop :=
  (c = .ret ∧ ¬ pre <+: P) ∨ (c = .ret ∧ Far (FT bn bq) W0 W ∧ Bk W bq 4 #[.bool true])
theorem packs_turn {g : Operand} {p q : Nat} {assign body : Code} {Q : Exit → Act → World → Prop} {T : Array Value} {ds : List Deferred} {W0 : World} (P : List Pk) (hP : P.length * 40 ≤ 140737488351232) (bs bn bq : Nat) (K : Nat → Prop) (sv : Value)
    (hg : (Act.mk T ds).eval g = .func (.func 33) #[] #[.pointer (some ⟨bs, 0, none⟩)])
    (hKl : ∀ k, K k → k < W0.heap.size) (hKn : ∀ k, K k → ¬ FT bn bq k) (hbs : Bk W0 bs 23 #[sv]) (hKb : K bs) (hp : PkIn K W0 sv P) (hbn : Bk W0 bn 3 #[.int .i64 0]) (hbq : Bk W0 bq 4 #[.bool false])
    (hassign : ∀ (l : Nat) (x : Pk) (W : World) (K : Act → World → Prop), K (pslots T p q x W.heap.size) (W.alloc (.cells (pcs x) 42)) →
      assign.wpIn (Fence.wide.inRound l) (10 - 1 - 1) Tryz.prog (Exit.then K (fun _ _ _ => False)) { tmps := T.setIfInBounds p (pkv x), defers := [] } W)
    (hbody : ∀ (l : Nat) (pre : List Pk) (x : Pk) (Bx : Nat) (W : World), W0.heap.size ≤ Bx → Bk W Bx 42 (pcs x) → PTurn P W0 bn bq pre W → pre.length < P.length →
      body.wpIn (Fence.wide.inRound l) (10 - 1 - 1) Tryz.prog (ownPostG W0.heap.size (fun A B => Far (FT bn bq) A B) (PTurn P W0 bn bq) (QTurn P W0 bn bq) (pre ++ [x]) W) (pslots T p q x Bx) W)
    (hdone : ∀ (D : Nat) (W : World), W0.heap.size ≤ D → Far (FT bn bq) W0 W → Bk W bn 3 #[.int .i64 (P.length : Int)] → Bk W bq 4 #[.bool false] → W.heap[D]? = some (.deferred (some [])) → Q .normal { tmps := T, defers := { target := .collected D, args := #[] } :: ds } W)
    (hstop : ∀ (D : Nat) (W : World), W0.heap.size ≤ D → Far (FT bn bq) W0 W → Bk W bq 4 #[.bool true] → W.heap[D]? = some (.deferred (some [])) → Code.ret.wp Tryz.prog Q { tmps := T, defers := { target := .collected D, args := #[] } :: ds } W) :
    (Code.rangeFunc g #[p] assign body).wp Tryz.prog Q { tmps := T, defers := ds } W0 := by
  refine (wpIn_wide (n := 10)).1 ?_
  refine wpIn_rangeFunc_ownH rfl (by decide) (gf := 33) (lb := #[.pointer (some ⟨bs, 0, none⟩)]) hg trivial (enters_of Tryz.func33 (by kernel_rfl) rfl)
    (vals_stops (10 - 1) (by decide) K bs sv P hP W0 hKl hbs hKb hp) keepK_t ?keep (Below.refl _ _) (fun _ => rfl)
    (PTurn P W0 bn bq) (QTurn P W0 bn bq) (fun s A B row hs hg hr => ⟨far_own hs.1 hg hr, hs.2.1.kept hg hr, hs.2.2.1.kept hg hr, hs.2.2.2⟩)
    (fun c s A B row hs hg hr => hs.imp id fun ⟨h1, h2, h3⟩ => ⟨h1, far_own h2 hg hr, h3.kept hg hr⟩)
    ⟨Far.refl _ W0, hbn, hbq, List.nil_prefix⟩
    (fun x a' W => ∃ Bx, W0.heap.size ≤ Bx ∧ Bk W Bx 42 (pcs x) ∧ a' = pslots T p q x Bx)
    (fun x a' s A B row hs hg hr => by obtain ⟨Bx, h1, h2, h3⟩ := hs; exact ⟨Bx, h1, h2.kept hg hr, h3⟩) ?assign ?body ?done ?stop
  case keep =>
    intro W l o o' hl h ho hw k hk
    have := hKl k hk
    exact World.putObj_heap_other (by omega)
  case assign =>
    intro l pre x W KK hI hK
    have e : ((#[p] : Array Tmp).zip #[pkv x]).foldl (fun t (p, v) => t.setIfInBounds p v) T = T.setIfInBounds p (pkv x) := by simp
    show assign.wpIn _ _ _ _ { tmps := ((#[p] : Array Tmp).zip #[pkv x]).foldl (fun t (p, v) => t.setIfInBounds p v) T, defers := [] } W
    rw [e]
    refine hassign l x W KK (hK _ _ ((KeepsOthers.alloc _ _).from _) ?_ ?_ ⟨W.heap.size, hI.1.size, Bk.new rfl, rfl⟩)
    · exact fun k hk => heap_alloc_old W _ (Nat.lt_of_lt_of_le (hKl k hk) hI.1.size)
    · exact ⟨hI.1.alloc _, hI.2.1.alloc _, hI.2.2.1.alloc _, hI.2.2.2⟩
  case body =>
    rintro l pre x a' W _ _ hI ⟨Bx, h1, h2, rfl⟩ hlt
    refine wpIn_mono (hbody l pre x Bx W h1 h2 hI hlt) fun e a' W' h => ?_
    cases e with
    | normal => exact ⟨h.1, KeepK.of_far h.2.1 fun k hk => ⟨Nat.lt_of_lt_of_le (hKl k hk) hI.1.size, hKn k hk⟩, h.2.2⟩
    | _ => exact h
  case done =>
    intro D xs W hD hxs hI hK
    have hx : xs = P := hxs
    subst hx
    exact hdone D W hD hI.1 hI.2.1 hI.2.2.1 hK
  case stop =>
    rintro D c pre W hD hS hX hK
    rcases hX with ⟨rfl, h1⟩ | ⟨rfl, h1, h2⟩
    · exact absurd hS h1
    · exact wpIn_wide.2 (hstop D W hD h1 h2 hK)
section
set_option maxHeartbeats 8000000
set_option maxRecDepth 100000
theorem finds_law (v pv : Value) (F : List Fc) (P : List Pk) (f0 f1 f2 s m : Int) (w : World) (hP : Facts w v F) (hQ : Packs w pv P) (hs : F.length * 24 ≤ 140737488351232) (hs2 : P.length * 40 ≤ 140737488351232) :
    Calls Tryz.prog 4 #[.agg #[v, pv], .agg #[.int .i64 f0, .int .i64 f1, .int .i64 f2], .int .i64 s, .int .i64 m] w fun e w' => e = .returned (.bool true) ∧ Far (fun _ => False) w w' := by
  obtain ⟨r, hr⟩ := isIdx_ex (f0, f1, f2) F
  have hLl := ofSpot_len P s
  obtain ⟨h0, hh0⟩ : ∃ h, h = w.heap.size := ⟨_, rfl⟩
  obtain ⟨h1, hh1⟩ : ∃ h, h = h0 + 1 := ⟨_, rfl⟩
  obtain ⟨h2, hh2⟩ : ∃ h, h = h1 + 1 := ⟨_, rfl⟩
  obtain ⟨h3, hh3⟩ : ∃ h, h = h2 + 1 := ⟨_, rfl⟩
  obtain ⟨ao, ac, rfl⟩ := Src.form hP
  obtain ⟨bo, bc, rfl⟩ := Src.form hQ
  obtain ⟨w0, hw0⟩ : ∃ w0, w0 = w.alloc (.cells #[.slice ao F.length ac, .slice bo P.length bc] 25) := ⟨_, rfl⟩
  obtain ⟨w1, hw1⟩ : ∃ w1, w1 = w0.alloc (.cells #[.int .i64 f0, .int .i64 f1, .int .i64 f2] 33) := ⟨_, rfl⟩
  obtain ⟨w2, hw2⟩ : ∃ w2, w2 = w1.alloc (.cells #[.int .i64 m] 3) := ⟨_, rfl⟩
  obtain ⟨W, hW⟩ : ∃ W, W = w2.alloc (.cells #[.bool false] 4) := ⟨_, rfl⟩
  have z0 : w0.heap.size = h1 := by rw [hw0]; simp [hh1, hh0]
  have z1 : w1.heap.size = h2 := by rw [hw1]; simp [hh2, z0]
  have z2 : w2.heap.size = h3 := by rw [hw2]; simp [hh3, z1]
  have z3 : W.heap.size = h3 + 1 := by rw [hW]; simp [z2]
  have hA : Bk W h0 25 #[.slice ao F.length ac, .slice bo P.length bc] := hW ▸ (hw2 ▸ (hw1 ▸ (hw0 ▸ Bk.new hh0 : Bk w0 h0 25 #[.slice ao F.length ac, .slice bo P.length bc]).alloc _ : Bk w1 h0 25 #[.slice ao F.length ac, .slice bo P.length bc]).alloc _ : Bk w2 h0 25 #[.slice ao F.length ac, .slice bo P.length bc]).alloc _
  have hB : Bk W h1 33 #[.int .i64 f0, .int .i64 f1, .int .i64 f2] := hW ▸ (hw2 ▸ (hw1 ▸ Bk.new z0.symm : Bk w1 h1 33 #[.int .i64 f0, .int .i64 f1, .int .i64 f2]).alloc _ : Bk w2 h1 33 #[.int .i64 f0, .int .i64 f1, .int .i64 f2]).alloc _
  have hC : Bk W h2 3 #[.int .i64 m] := hW ▸ (hw2 ▸ Bk.new z1.symm : Bk w2 h2 3 #[.int .i64 m]).alloc _
  have hR : Bk W h3 4 #[.bool false] := hW ▸ Bk.new z2.symm
  have hF : Far (fun _ => False) w W := hW ▸ (hw2 ▸ (hw1 ▸ (hw0 ▸ (Far.refl _ w).alloc _ : Far (fun _ => False) w w0).alloc _ : Far (fun _ => False) w w1).alloc _ : Far (fun _ => False) w w2).alloc _
  have hP' := hP.move hF
  have hQ' := hQ.move hF
  have HK := Lib.hid (show ∀ w', Far (fun _ => False) W w' → w'.cell? ⟨h0, 0, none⟩ = some (.slice ao F.length ac) ∧ w'.cell? ⟨h0, 1, none⟩ = some (.slice bo P.length bc) ∧ w'.cell? ⟨h1, 0, none⟩ = some (.int .i64 f0) ∧ w'.cell? ⟨h1, 1, none⟩ = some (.int .i64 f1) ∧ w'.cell? ⟨h1, 2, none⟩ = some (.int .i64 f2) from
    fun w' hf => ⟨(hA.far' hf id).cell 0, (hA.far' hf id).cell 1, (hB.far' hf id).cell 0, (hB.far' hf id).cell 1, (hB.far' hf id).cell 2⟩)
  have FC := Lib.hid (fun w' (hf : Far (fun _ => False) W w') => fcopy_any (.slice ao F.length ac) (.slice bo P.length bc) F P w' (hP'.move hf) (hQ'.move hf) hs hs2)
  have FI0 := fun v' pv' w' (h1 : Facts w' v' F) => find22_any v' pv' F f0 f1 f2 r w' h1 hs hr
  generalize hrv : (if r < 0 then 0 else r) = rv at FI0
  generalize hrb : decide (0 ≤ r) = rb at FI0
  have FI := Lib.hid FI0
  have hrv' := Lib.hid hrv
  have hrb' := Lib.hid hrb
  clear FI0 hrv hrb
  have RI := Lib.hid (fun w' (hf : Far (fun _ => False) W w') => ridx_any (.slice ao F.length ac) F f0 f1 f2 r w' (hP'.move hf) hs hr)
  have PO := Lib.hid (fun w' (hf : Far (fun _ => False) W w') => packsOf_any (.slice ao F.length ac) (.slice bo P.length bc) F P s w' (hP'.move hf) (hQ'.move hf) hs2)
  have SP := Lib.hid (fun v' pv' w' (h1 : Facts w' v' F) (h2 : Packs w' pv' P) => spacks_any v' pv' F P s w' h1 h2 hs2)
  have hrm := Lib.hid (show -1 ≤ r from by rcases hr with ⟨rfl, _⟩ | ⟨k, rfl, _⟩ <;> omega)
  have hh0' := Lib.hid hh0
  have hh1' := Lib.hid hh1
  have hh2' := Lib.hid hh2
  have hh3' := Lib.hid hh3
  have hw0' := Lib.hid hw0
  have hw1' := Lib.hid hw1
  have hw2' := Lib.hid hw2
  have hW' := Lib.hid hW
  have hC' := Lib.hid hC
  have hR' := Lib.hid hR
  have hF' := Lib.hid hF
  have z3' := Lib.hid z3
  have hL40 := Lib.hid (show (ofSpot P s).length * 40 ≤ 140737488351232 by omega)
  obtain ⟨a0, a1, b0, b1, b2⟩ := HK.out W (Far.refl _ _)
  generalize hL : ofSpot P s = L at *
  clear hL hP hQ hP' hQ' hs hr hh0 hh1 hh2 hh3 hw0 hw1 hw2 hW hA hB hC hR hF z0 z1 z2 z3
  refine (callsIn_wide (n := 10)).1 (callsIn_of_wp_marks Tryz.func4 rfl trivial (wpIn_wide.2 ?_) rfl)
  simp only [Tryz.ntmps4, List.size_toArray, List.length_cons, List.length_nil, Nat.reduceAdd, Nat.reduceSub, Array.replicate_succ, Array.replicate_zero, List.push_toArray, List.append_toArray, List.nil_append, List.cons_append]
  go_upto_region 1 with fail
  rw [← hh0'.out, ← hh1'.out, ← hh2'.out, ← hh3'.out, ← hw0'.out, ← hw1'.out, ← hw2'.out, ← hW'.out]
  go_cut [9, 10] from 15 to 21 (fun iv ov wc => iv = .int .i64 rv ∧ ov = .bool rb ∧ Far (fun _ => False) W wc)
  case first =>
    go_region_held3 (fun w' => w'.cell? ⟨h0, 0, none⟩ = some (.slice ao F.length ac) ∧ w'.cell? ⟨h0, 1, none⟩ = some (.slice bo P.length bc) ∧ w'.cell? ⟨h1, 0, none⟩ = some (.int .i64 f0) ∧ w'.cell? ⟨h1, 1, none⟩ = some (.int .i64 f1) ∧ w'.cell? ⟨h1, 2, none⟩ = some (.int .i64 f2)) (go_keep)
      (first
        | (go_at_call 9; refine (FI.out _ _ _ q10.out).mono ?_; rintro e w11 ⟨rfl, hf11⟩; have FW11 := Lib.hid (FW10.out.then hf11); obtain ⟨s0, s1, s2, s3, s4⟩ := HK.out w11 FW11.out; clear hf11)
        | (go_at_call 6; refine (FC.out _ (drew_far W)).mono ?_; rintro e w10 ⟨⟨co, cc, d, dc, rfl, q1, q2⟩, hf10⟩; have FW10 := Lib.hid ((drew_far W).then hf10); have q10 := Lib.hid q1; obtain ⟨r0, r1, r2, r3, r4⟩ := HK.out w10 FW10.out; clear hf10 q1 q2))
    all_goals
      go_wp2_with fail
      go_meet
      exact ⟨rfl, rfl, FW11.out⟩
  case rest =>
    obtain ⟨rfl, rfl, hfc⟩ := hcut
    clear a0 a1 b0 b1 b2
    obtain ⟨a0, a1, b0, b1, b2⟩ := HK.out wc hfc
    have RI4 := RI.out wc hfc
    have hfc' := Lib.hid hfc
    clear hfc
    go_wp2_with fail
    refine RI4.mono ?_
    rintro e w4 ⟨rfl, hf4⟩
    have hf4' := Lib.hid (hfc'.out.then hf4)
    clear RI4 hf4 a0 a1 b0 b1 b2
    go_upto_region 3 with fail
    go_cut [49] from 26 to 48 (fun tv wd => tv = .bool false ∧ Far (fun _ => False) W wd)
    case first =>
      by_cases hr0 : r < 0
      · have d1 : decide (0 ≤ r) = false := decide_eq_false (by omega)
        have d2 : decide (r ≥ 0) = false := d1
        obtain rfl : rv = 0 := by rw [← hrv'.out, if_pos hr0]
        obtain rfl : rb = false := by rw [← hrb'.out, d1]
        clear hr0
        go_wp2_with fail
        refine (head22_any _).mono ?_
        rintro e w5 ⟨rfl, hf5⟩
        have hf5' := Lib.hid (hf4'.out.then hf5)
        clear hf5
        go_wp2_with fail
        go_meet
        exact ⟨rfl, hf5'.out⟩
      · have d1 : decide (0 ≤ r) = true := decide_eq_true (by omega)
        have d2 : decide (r ≥ 0) = true := d1
        have d3 : (r != r) = false := by simp
        obtain rfl : rv = r := by rw [← hrv'.out, if_neg hr0]
        obtain rfl : rb = true := by rw [← hrb'.out, d1]
        clear hr0
        go_wp2_with fail
        refine (head22_any _).mono ?_
        rintro e w5 ⟨rfl, hf5⟩
        have hf5' := Lib.hid (hf4'.out.then hf5)
        clear hf5
        go_wp2_with fail
        go_meet
        exact ⟨rfl, hf5'.out⟩
    case rest =>
      obtain ⟨rfl, hfd⟩ := hcut
      obtain ⟨a0, a1, -, -, -⟩ := HK.out wc hfd
      have PO5 := PO.out wc hfd
      have hfd' := Lib.hid hfd
      clear hfd
      go_wp2_with fail
      refine PO5.mono ?_
      rintro e w5 ⟨⟨lo, lc, rfl, hpl⟩, hf5⟩
      have hf5' := Lib.hid (hfd'.out.then hf5)
      have hpl' := Lib.hid hpl
      clear PO5 hf5 hpl a0 a1
      go_upto_region 7 with fail
      obtain ⟨k12, hk12⟩ : ∃ k, k = w5.heap.size := ⟨_, rfl⟩
      obtain ⟨k13, hk13⟩ : ∃ k, k = k12 + 1 := ⟨_, rfl⟩
      obtain ⟨w6, hw6⟩ : ∃ w6, w6 = w5.alloc (.cells #[.slice lo L.length lc] 23) := ⟨_, rfl⟩
      obtain ⟨w7, hw7⟩ : ∃ w7, w7 = w6.alloc (.cells #[.int .i64 0] 3) := ⟨_, rfl⟩
      have y6 : w6.heap.size = k13 := by rw [hw6]; simp [hk13, hk12]
      have y7 : w7.heap.size = k13 + 1 := by rw [hw7]; simp [y6]
      have hL7 : Bk w7 k12 23 #[.slice lo L.length lc] := hw7 ▸ (hw6 ▸ Bk.new hk12 : Bk w6 k12 23 #[.slice lo L.length lc]).alloc _
      have hN7 : Bk w7 k13 3 #[.int .i64 0] := hw7 ▸ Bk.new y6.symm
      have hF57 : Far (fun _ => False) w5 w7 := hw7 ▸ (hw6 ▸ (Far.refl _ w5).alloc _ : Far (fun _ => False) w5 w6).alloc _
      rw [← hk12, ← hk13, ← hw6, ← hw7]
      have hf7 := hf5'.out.then hF57
      obtain ⟨a0, a1, -, -, -⟩ := HK.out w7 hf7
      have FC7 := FC.out w7 hf7
      have hf7' := Lib.hid hf7
      have hk12' := Lib.hid (show h3 < k12 by have := hf5'.out.size; have := z3'.out; omega)
      have hk13' := Lib.hid hk13
      have y7' := Lib.hid y7
      have hL7' := Lib.hid hL7
      have hN7' := Lib.hid hN7
      have hpl7' := Lib.hid (hpl'.out.move hF57)
      clear hf7 hF57 hL7 hN7 hk12 hk13 hw6 hw7 y6 y7
      go_wp2_with fail
      refine FC7.mono ?_
      rintro e w8 ⟨⟨co, cc, d, dc, rfl, q1, q2⟩, hf8⟩
      have SP8 := SP.out _ _ w8 q1 q2
      have hf8' := Lib.hid hf8
      clear FC7 hf8 q1 q2 a0 a1
      go_wp2_with fail
      refine SP8.mono ?_
      rintro e w9 ⟨⟨bs, oo, oc, rfl, hbs0, hbs, hoo, hpk⟩, hf9⟩
      have hf79 := hf8'.out.then hf9
      have hL9 := Lib.hid (hL7'.out.far' hf79 id)
      have hN9 := Lib.hid (hN7'.out.far' hf79 id)
      have hR9 := Lib.hid (hR'.out.far' (hf7'.out.then hf79) id)
      have hC9 := Lib.hid (hC'.out.far' (hf7'.out.then hf79) id)
      have hpl9 := Lib.hid (hpl7'.out.move hf79)
      have hW9 := Lib.hid (hf7'.out.then hf79)
      have hs8 : k13 < w8.heap.size := by have := hf8'.out.size; have := y7'.out; omega
      have h3k : h3 < k12 := hk12'.out
      have k1k : k12 < k13 := by have := hk13'.out; omega
      have hs9 := hf79.size
      clear SP8 hf9 hf79
      go_wp2_with fail
      refine packs_turn (p := 57) (q := 14) L hL40.out bs k13 h3 (fun k => k = bs ∨ ∃ off, oo = some ⟨k, off, none⟩) (.slice oo L.length oc) rfl ?kl ?kn hbs (.inl rfl) (hpk.in fun b off n c e => by simp only [Value.slice.injEq] at e; exact .inr ⟨off, e.1⟩) hN9.out hR9.out ?assign ?body ?done ?stop
      case kl =>
        rintro k (rfl | ⟨off, rfl⟩)
        · exact hbs.lt
        · exact (hoo _ _ rfl).2
      case kn =>
        rintro k (rfl | ⟨off, rfl⟩) (rfl | rfl)
        · omega
        · omega
        · have := (hoo _ _ rfl).1; omega
        · have := (hoo _ _ rfl).1; omega
      case assign =>
        intro l x W1 K hK
        simp only [pslots, pkv, pcs, List.setIfInBounds_toArray, List.set_cons_succ, List.set_cons_zero] at hK
        simp only [pkv, List.setIfInBounds_toArray, List.set_cons_succ, List.set_cons_zero]
        gi_wp2
        exact hK
      case body =>
        intro l pre x Bx V hBx hX hI hlen
        obtain ⟨hG, hN, hR, hPre⟩ := hI
        obtain ⟨y, hy⟩ : ∃ y, L[pre.length]? = some y := ⟨_, List.getElem?_eq_getElem hlen⟩
        have hpn := Lib.hid (prefix_next (x := x) hPre hy)
        obtain ⟨b, off, c, he, hb, y0, y1, y2, y3, y4⟩ := hpl9.out.pack hy
        simp only [Value.slice.injEq] at he
        obtain ⟨rfl, _, rfl⟩ := he
        have hb1 : ¬ FT k13 h3 b := by
          rintro (rfl | rfl)
          · have e1 := hN9.out.cell (off + pre.length * 5 + 1)
            rw [y1] at e1
            simp at e1
          · have e1 := hR9.out.cell (off + pre.length * 5 + 1)
            rw [y1] at e1
            simp at e1
        have q := fun i => cell_eq (w := w9) (w' := V) (p := ⟨b, i, none⟩) (hG.block b hb hb1)
        replace y0 := (q _).trans y0
        replace y1 := (q _).trans y1
        replace y2 := (q _).trans y2
        replace y3 := (q _).trans y3
        replace y4 := (q _).trans y4
        have cn : V.cell? ⟨k13, 0, none⟩ = some (.int .i64 (pre.length : Int)) := hN.cell 0
        have fn : V.frozen? ⟨k13, 0, none⟩ = false := hN.free 0
        have cr : V.cell? ⟨h3, 0, none⟩ = some (.bool false) := hR.cell 0
        have fr : V.frozen? ⟨h3, 0, none⟩ = false := hR.free 0
        have cl : V.cell? ⟨k12, 0, none⟩ = some (.slice (some ⟨b, off, none⟩) L.length lc) := (hL9.out.far' hG (fun e => by rcases e with e | e <;> omega)).cell 0
        have h23 : h2 < h3 := by have := hh3'.out; omega
        have cm : V.cell? ⟨h2, 0, none⟩ = some (.int .i64 m) := (hC9.out.far' hG (fun e => by rcases e with e | e <;> omega)).cell 0
        have x0 : V.cell? ⟨Bx, 0, none⟩ = some (.int .i64 x.1) := hX.cell 0
        have x1 : V.cell? ⟨Bx, 1, none⟩ = some (.int .i64 x.2.1) := hX.cell 1
        have x2 : V.cell? ⟨Bx, 2, none⟩ = some (.int .i64 x.2.2.1) := hX.cell 2
        have x3 : V.cell? ⟨Bx, 3, none⟩ = some (.int .i64 x.2.2.2.1) := hX.cell 3
        have x4 : V.cell? ⟨Bx, 4, none⟩ = some (.int .i64 x.2.2.2.2) := hX.cell 4
        have hge : decide ((pre.length : Int) ≥ (L.length : Int)) = false := by rw [decide_eq_false_iff_not]; omega
        have hge2 : decide ((L.length : Int) ≤ (pre.length : Int)) = false := by rw [decide_eq_false_iff_not]; omega
        have hltp : (pre.length : Int) < (L.length : Int) := by omega
        have hpl3 : pre.length ≤ 3518437208783 := by omega
        have hne : ¬ k13 = h3 := by omega
        have hne2 : ¬ h3 = k13 := by omega
        have hkb : ∀ k, FT k13 h3 k → ∃ cs t, Bk V k t cs := by
          rintro k (rfl | rfl)
          · exact ⟨_, _, hN⟩
          · exact ⟨_, _, hR⟩
        have hG' := Lib.hid hG
        have hN' := Lib.hid hN
        have hR' := Lib.hid hR
        have hkb' := Lib.hid hkb
        have hlen1 := Lib.hid (show ((pre ++ [x]).length : Int) = (pre.length : Int) + 1 by simp)
        obtain ⟨px0, px1, px2, px3, px4⟩ := x
        obtain ⟨py0, py1, py2, py3, py4⟩ := y
        dsimp only at x0 x1 x2 x3 x4 y0 y1 y2 y3 y4
        have EQ := eq_pack px0 px1 px2 px3 px4 py0 py1 py2 py3 py4
        clear hG hN hR hPre hX hy q hb1 hkb hBx hbs hoo hpk hb
        simp only [pslots, pkv, List.setIfInBounds_toArray, List.set_cons_succ, List.set_cons_zero]
        by_cases hxy : ((px0, px1, px2, px3, px4) : Pk) = (py0, py1, py2, py3, py4)
        · have hpre2 := Lib.hid (hpn.out.2 hxy)
          rw [beq_iff_eq.2 hxy] at EQ
          clear hxy hpn
          gi_wp2
          refine region_reads (by kernel_rfl) (by kernel_rfl) (by kernel_rfl) ?_
          repeat (quiet_step_in (fail))
          refine wpQuietIn_nil ?_
          intro _ hw'
          obtain ⟨nq, rfl⟩ := hw'
          have cn' : (V.drewN nq).cell? ⟨k13, 0, none⟩ = some (.int .i64 (pre.length : Int)) := cn
          have fn' : (V.drewN nq).frozen? ⟨k13, 0, none⟩ = false := fn
          have cr' : (V.drewN nq).cell? ⟨h3, 0, none⟩ = some (.bool false) := cr
          have fr' : (V.drewN nq).frozen? ⟨h3, 0, none⟩ = false := fr
          have cm' : (V.drewN nq).cell? ⟨h2, 0, none⟩ = some (.int .i64 m) := cm
          have hne3 : ¬ h2 = k13 := by omega
          have S1 := Lib.hid ((((Far.refl (FT k13 h3) V).drewN nq).set ⟨k13, 0, none⟩ (.int .i64 ((pre.length : Int) + 1)) (fun _ => .inl rfl)))
          have N1 := Lib.hid ((hN'.out.drewN nq).set 0 (.int .i64 ((pre.length : Int) + 1)))
          have R1 := Lib.hid ((hR'.out.drewN nq).far (p := ⟨k13, 0, none⟩) (fun e => hne2 e) (.int .i64 ((pre.length : Int) + 1)))
          have S2 := Lib.hid (S1.out.set ⟨h3, 0, none⟩ (.bool true) (fun _ => .inr rfl))
          have R2 := Lib.hid (R1.out.set 0 (.bool true))
          clear EQ x0 x1 x2 x3 x4 y0 y1 y2 y3 y4 cn fn cr fr cm cl hge hge2
          by_cases hm : (pre.length : Int) + 1 = m
          · have hm2 : ((pre.length : Int) + 1 == m) = true := by simp [hm]
            clear hm
            gi_wp2
            exact ⟨keeps_far S2.out hkb'.out, .inr ⟨rfl, hG'.out.trans S2.out fun _ _ h => h, R2.out⟩⟩
          · have hm2 : ((pre.length : Int) + 1 == m) = false := by simp [hm]
            clear hm
            gi_wp2
            exact ⟨keeps_far S1.out hkb'.out, S1.out, hG'.out.trans S1.out fun _ _ h => h, by rw [hlen1.out]; exact N1.out, R1.out, hpre2.out⟩
        · have hpre2 := Lib.hid (fun h => hxy (hpn.out.1 h))
          rw [beq_eq_false_iff_ne.2 hxy] at EQ
          clear hxy hpn
          gi_wp2
          refine region_reads (by kernel_rfl) (by kernel_rfl) (by kernel_rfl) ?_
          repeat (quiet_step_in (fail))
          refine wpQuietIn_nil ?_
          intro _ hw'
          obtain ⟨nq, rfl⟩ := hw'
          have cr' : (V.drewN nq).cell? ⟨h3, 0, none⟩ = some (.bool false) := cr
          have fr' : (V.drewN nq).frozen? ⟨h3, 0, none⟩ = false := fr
          have S2 := Lib.hid ((((Far.refl (FT k13 h3) V).drewN nq).set ⟨h3, 0, none⟩ (.bool false) (fun _ => .inr rfl)))
          clear EQ x0 x1 x2 x3 x4 y0 y1 y2 y3 y4 cn fn cr fr cm cl hge hge2
          gi_wp2
          exact ⟨keeps_far S2.out hkb'.out, .inl ⟨rfl, hpre2.out⟩⟩
      case done =>
        intro D V hD hG hN hR hK
        have cn : V.cell? ⟨k13, 0, none⟩ = some (.int .i64 (L.length : Int)) := hN.cell 0
        have cr : V.cell? ⟨h3, 0, none⟩ = some (.bool false) := hR.cell 0
        have fr : V.frozen? ⟨h3, 0, none⟩ = false := hR.free 0
        have cl : V.cell? ⟨k12, 0, none⟩ = some (.slice lo L.length lc) := (hL9.out.far' hG (fun e => by rcases e with e | e <;> omega)).cell 0
        have hDh : D ≠ h3 := by have := hW9.out.size; have := z3'.out; omega
        have hhw : w.heap.size ≤ h3 := by have := hh0'.out; have := hh1'.out; have := hh2'.out; have := hh3'.out; omega
        have U1 := Lib.hid ((heap_setCell_other V ⟨h3, 0, none⟩ D (.bool true) hDh).trans hK)
        have R1 : Bk ((V.setCell ⟨h3, 0, none⟩ (.bool true)).putObj D (.deferred none)) h3 4 #[.bool true] := (World.putObj_heap_other (fun e => hDh e.symm)).trans (hR.set 0 (.bool true))
        have hz3 : h3 < W.heap.size := by have := z3'.out; omega
        have FB := Lib.hid (((hF'.out.then hW9.out).trans (((hG.mono (G := fun k => h3 ≤ k) fun k _ hk => by rcases hk with rfl | rfl <;> omega).set ⟨h3, 0, none⟩ (.bool true) (fun _ => Nat.le_refl _)).grown (grownBy_putObj' _ D (.deferred none)) (fun k hk e => by cases e; omega)) fun i hi hk => by omega))
        have HH := Lib.hid (R1.cell 0)
        clear R1 hG hN hR hK
        go_wp2_with fail
        refine ⟨by simp, .inl ⟨D, _, rfl, run_takeDeferred U1.out, ?_⟩⟩
        refine ⟨.bool true, ?_, rfl, FB.out⟩
        have hc := HH.out
        simp [results, Tryz.f4, go_sem, hc]
      case stop =>
        intro D V hD hG hR hK
        have hDh : D ≠ h3 := by have := hW9.out.size; have := z3'.out; omega
        have hhw : w.heap.size ≤ h3 := by have := hh0'.out; have := hh1'.out; have := hh2'.out; have := hh3'.out; omega
        have R1 : Bk (V.putObj D (.deferred none)) h3 4 #[.bool true] := (World.putObj_heap_other (fun e => hDh e.symm)).trans hR
        have hz3 : h3 < W.heap.size := by have := z3'.out; omega
        have FB := Lib.hid (((hF'.out.then hW9.out).trans ((hG.mono (G := fun k => h3 ≤ k) fun k _ hk => by rcases hk with rfl | rfl <;> omega).grown (grownBy_putObj' _ D (.deferred none)) (fun k hk e => by cases e; omega)) fun i hi hk => by omega))
        have HH := Lib.hid (R1.cell 0)
        have U1 := Lib.hid hK
        clear R1 hG hR hK
        go_wp2_with fail
        refine ⟨by simp, .inl ⟨D, _, rfl, run_takeDeferred U1.out, ?_⟩⟩
        refine ⟨.bool true, ?_, rfl, FB.out⟩
        have hc := HH.out
        simp [results, Tryz.f4, go_sem, hc]
end
end Go.Proofs.YteoglnbmmgoibaaGreatDoor
