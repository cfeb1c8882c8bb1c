/-
  QuadParts walked.
-/
import Derived.Test.YtoaeeojnelmlnaaQBlocks
import Derived.StillTailTactics
namespace Go.Proofs.Ytoaeeojnelmlnaa
open Go.RowKit Go.Shelf
set_option linter.unusedVariables false
set_option linter.unusedSimpArgs false
theorem seqType : ((Try.prog.underlying 39).map fun d => match d with | .func .. => true | _ => false) = some true := by kernel_rfl
theorem fn_nil (g : Fn) (a b : Array Value) (w : World) : (binOp .eql 39 (.func g a b) .nilFunc).run Try.prog w = .ok (.bool false) w := by
  cases hs : Try.prog.underlying 39 with
  | none => have := seqType; rw [hs] at this; cases this
  | some s =>
    have h := seqType
    rw [hs] at h
    cases s <;> simp at h
    have e : ∀ d, (Op.equalIn (d + 1) 39 (.func g a b) .nilFunc).run Try.prog w = .ok false w := fun d => by simp [Op.equalIn, run_underlying hs]
    simp [binOp, Op.equal]
    rw [show Op.maxDepth = 9999 + 1 from rfl, e]
    rfl
/-- A matrix lies in blocks of cells. -/
theorem Mx.cells {w : World} {B side : Nat} {F : Nat → Prop} {M : Nat → Nat → Bool} (h : Mx w B F side M) {k : Nat} (hk : F k) {o : Obj} (ho : w.heap[k]? = some o) : o.isCells = true := by
  obtain ⟨lv, root, nv, lvv, ns, A, ps, hq, hl, rfl⟩ := h
  have row : ∀ {b e s n : Nat} {v : Value} {xs : List Value}, w.ownsRow b e s v n xs → v.ownBlock = some k → o.isCells = true := fun {b e s n v xs} hr e' => by
    rcases hr.2 with ⟨rfl, _⟩ | ⟨g', cap, cur, rfl, _, hg, _⟩
    · cases e'
    · have : g' = k := Option.some.inj e'
      subst this
      rw [ho] at hg
      cases hg
      rfl
  rcases hk with rfl | e | e
  · have := hq.box; unfold Bk at this; rw [ho] at this; cases this; rfl
  · exact row hq.nodes e
  · exact row hq.leaves e
/-- Where the loop stands: behind the places pre. -/
structure PI (M : Nat → Nat → Bool) (s Bo h3 : Nat) (W0 : World) (F : Nat → Prop) (pre : List (Nat × Nat)) (V : World) : Prop where
  mx : Mx V Bo F s (foldP id (fun p => blk (sub M p.1 p.2)) pre)
  own : ∀ k, F k → k = Bo ∨ W0.heap.size ≤ k
  far : Far (fun k => k = h3 ∨ k = Bo) W0 V
  last : Bk V h3 3 #[.int .i64 (lastN pre)]
theorem PI.go {M : Nat → Nat → Bool} {s Bo h3 : Nat} {W0 A B : World} {F : Nat → Prop} {pre : List (Nat × Nat)} {row : Option Nat} (h : PI M s Bo h3 W0 F pre A) (hg : A.grownBy B row) (hr : ∀ r, row = some r → W0.heap.size ≤ r ∧ ∃ o : Obj, A.heap[r]? = some o ∧ o.isCells = false) : PI M s Bo h3 W0 F pre B :=
  ⟨h.mx.kept (grown_F hg) (fun k hk e => by
    obtain ⟨_, o, ho, hc⟩ := hr k e
    have := h.mx.cells hk ho
    rw [hc] at this
    exact Bool.noConfusion this), h.own, far_own h.far hg hr, h.last.kept hg hr⟩
theorem PI.still {M : Nat → Nat → Bool} {s Bo h3 : Nat} {W0 A B : World} {F : Nat → Prop} {pre : List (Nat × Nat)} (h : PI M s Bo h3 W0 F pre A) (hf : Far (fun _ => False) A B) : PI M s Bo h3 W0 F pre B :=
  ⟨h.mx.still hf, h.own, h.far.trans hf fun _ _ h => h.elim, h.last.far' hf id⟩
attribute [local go_sem] Oper.semAt_some
section
set_option maxHeartbeats 8000000
set_option maxRecDepth 100000
theorem parts_law (W : World) (x : Int) (ao : Option Addr) (n cap : Nat) (R C : Nat → Int) (hn : n ≤ 9223372036854775807) (hC : Cls W ao n R C) :
    Calls Try.prog 4 #[.int .i64 x, .slice ao n cap] W fun e w' => e = .returned (.bool true) ∧ Far (fun _ => False) W w' := by
  obtain ⟨s, hs⟩ : ∃ s, (x % 1024).toNat + 1 = s := ⟨_, rfl⟩
  have hs1 : 1 ≤ s := by omega
  have hs2 : s ≤ 1024 := by omega
  obtain ⟨h0, hh0⟩ : ∃ h, h = W.heap.size := ⟨_, rfl⟩
  obtain ⟨Wa, hWa⟩ : ∃ V, V = W.alloc (.cells #[.bool false] 4) := ⟨_, rfl⟩
  have hFa : Far (fun _ => False) W Wa := hWa ▸ (Far.refl _ W).alloc _
  have hBa : Bk Wa h0 4 #[.bool false] := hWa ▸ Bk.new hh0
  have SZ := size02_any x Wa
  rw [hs] at SZ
  have PU := put02_any s hs1 hs2 ao n cap R C hn Wa (hC.move hFa)
  obtain ⟨M, hM⟩ : ∃ M, putL (fun k => red s (R k)) (fun k => red s (C k)) n = M := ⟨_, rfl⟩
  rw [hM] at PU
  have hle := numM_le M
  have hh0' := Lib.hid hh0
  have hWa' := Lib.hid hWa
  have hFa' := Lib.hid hFa
  have hBa' := Lib.hid hBa
  clear hC hM hs hh0 hWa hFa hBa
  refine (callsIn_wide (n := 10)).1 (callsIn_of_wp_marks Try.func4 rfl trivial (wpIn_wide.2 ?_) rfl)
  simp only [Try.ntmps4, List.size_toArray, List.length_cons, List.length_nil, Nat.reduceAdd, Nat.reduceSub, Array.replicate_succ, Array.replicate_zero, List.push_toArray, List.append_toArray, List.nil_append, List.cons_append]
  go_upto_region 1 with fail
  rw [← hh0'.out, ← hWa'.out]
  go_wp2_with fail
  refine SZ.mono ?_
  rintro e w' ⟨rfl, rfl⟩
  clear SZ
  go_wp2_with fail
  refine PU.mono ?_
  rintro e w1 ⟨Bm, rfl, Fm, hXm, hlm, hf1⟩
  have hXm' := Lib.hid hXm
  have hlm' := Lib.hid hlm
  have hf1' := Lib.hid hf1
  clear PU hXm hlm hf1
  go_upto_region 3 with fail
  obtain ⟨h1, hh1⟩ : ∃ h, h = w1.heap.size := ⟨_, rfl⟩
  obtain ⟨w2, hw2⟩ : ∃ V, V = w1.alloc (.cells #[.pointer (some ⟨Bm, 0, none⟩)] 24) := ⟨_, rfl⟩
  rw [← hh1, ← hw2]
  have hf12 : Far (fun _ => False) w1 w2 := hw2 ▸ (Far.refl _ w1).alloc _
  have hB12 : Bk w2 h1 24 #[.pointer (some ⟨Bm, 0, none⟩)] := hw2 ▸ Bk.new hh1
  have z2 : w2.heap.size = h1 + 1 := by rw [hw2]; simp [hh1]
  have z1 := hf1'.out.size
  have hbm : ∀ k, Fm k → k < h1 := fun k hk => hh1 ▸ hXm'.out.lt k hk
  have hX2 := Lib.hid (hXm'.out.still hf12)
  have hB02 := Lib.hid ((hBa'.out.far' hf1'.out id).far' hf12 id)
  have hf2 := Lib.hid ((hFa'.out.then hf1'.out).then hf12)
  have hB12' := Lib.hid hB12
  have hz2 := Lib.hid z2
  have hz1 := Lib.hid z1
  have hbm' := Lib.hid hbm
  have hh1' := Lib.hid hh1
  clear hf12 hB12 z2 z1 hbm hw2 hh1 hXm' hf1' hBa'
  go_wp2_with fail
  refine (qnew_yes s hs1 hs2 w2).mono ?_
  rintro e w3 ⟨rfl, l, hl, hw, hB, hf3⟩
  have hN3 := Lib.hid (Mx.new (w := w2) hs1 hs2 hl hw hB)
  have hX3 := Lib.hid (hX2.out.still hf3)
  have hB03 := Lib.hid (hB02.out.far' hf3 id)
  have hB13 := Lib.hid (hB12'.out.far' hf3 id)
  have hf3' := Lib.hid (hf2.out.then hf3)
  have hz3 := Lib.hid hf3.size
  clear hB hf3 hX2 hf2 hB02 hB12'
  obtain ⟨Bo, hBo⟩ : ∃ b, b = w2.heap.size := ⟨_, rfl⟩
  rw [← hBo] at hN3 ⊢
  obtain ⟨Fo, hFo⟩ : ∃ F, F = Qf Bo (Value.slice none 0 0) (Value.slice none 0 0) := ⟨_, rfl⟩
  rw [← hFo] at hN3
  have hFo' := Lib.hid (show ∀ k, Fo k → k = Bo from fun k hk => Qf_none (hFo ▸ hk))
  have hBo' := Lib.hid hBo
  clear hFo hBo
  go_upto_region 4 with fail
  obtain ⟨h2, hh2⟩ : ∃ h, h = w3.heap.size := ⟨_, rfl⟩
  obtain ⟨w4, hw4⟩ : ∃ V, V = w3.alloc (.cells #[.pointer (some ⟨Bo, 0, none⟩)] 24) := ⟨_, rfl⟩
  rw [← hh2, ← hw4]
  have hf34 : Far (fun _ => False) w3 w4 := hw4 ▸ (Far.refl _ w3).alloc _
  have hB24 := Lib.hid (show Bk w4 h2 24 #[.pointer (some ⟨Bo, 0, none⟩)] from hw4 ▸ Bk.new hh2)
  have hz4 := Lib.hid (show w4.heap.size = h2 + 1 by rw [hw4]; simp [hh2])
  have hX4 := Lib.hid (hX3.out.still hf34)
  have hN4 := Lib.hid (hN3.out.still hf34)
  have hB04 := Lib.hid (hB03.out.far' hf34 id)
  have hB14 := Lib.hid (hB13.out.far' hf34 id)
  have hf4 := Lib.hid (hf3'.out.then hf34)
  have hh2' := Lib.hid hh2
  clear hw4 hh2 hf34 hX3 hN3 hB03 hB13 hf3'
  have c1 : w4.cell? ⟨h1, 0, none⟩ = some (.pointer (some ⟨Bm, 0, none⟩)) := hB14.out.cell 0
  have c2 : w4.cell? ⟨h2, 0, none⟩ = some (.pointer (some ⟨Bo, 0, none⟩)) := hB24.out.cell 0
  go_upto_region 7 with fail
  obtain ⟨h3, hh3⟩ : ∃ h, h = w4.heap.size := ⟨_, rfl⟩
  obtain ⟨w5, hw5⟩ : ∃ V, V = w4.alloc (.cells #[.int .i64 (-1)] 3) := ⟨_, rfl⟩
  rw [← hh3, ← hw5]
  have hf45 : Far (fun _ => False) w4 w5 := hw5 ▸ (Far.refl _ w4).alloc _
  have hB35 := Lib.hid (show Bk w5 h3 3 #[.int .i64 (-1)] from hw5 ▸ Bk.new hh3)
  have hz5 := Lib.hid (show w5.heap.size = h3 + 1 by rw [hw5]; simp [hh3])
  have hX5 := Lib.hid (hX4.out.still hf45)
  have hN5 := Lib.hid (hN4.out.still hf45)
  have hB05 := Lib.hid (hB04.out.far' hf45 id)
  have hB15 := Lib.hid (hB14.out.far' hf45 id)
  have hB25 := Lib.hid (hB24.out.far' hf45 id)
  have hf5 := Lib.hid (hf4.out.then hf45)
  have hh3' := Lib.hid hh3
  clear hw5 hh3 hf45 hX4 hN4 hB04 hB14 hB24 hf4 c1 c2
  have c1 : w5.cell? ⟨h1, 0, none⟩ = some (.pointer (some ⟨Bm, 0, none⟩)) := hB15.out.cell 0
  have BL := qblocks_any hX5.out
  have FN := fn_nil
  go_wp2_with fail
  refine BL.mono ?_
  rintro e W0 ⟨hb, v, rfl, hbX, hbO, hbz, hf6⟩
  have hX0 := Lib.hid (hX5.out.still hf6)
  have hN0 := Lib.hid (hN5.out.still hf6)
  have hB0 := Lib.hid (hB05.out.far' hf6 id)
  have hB1 := Lib.hid (hB15.out.far' hf6 id)
  have hB2 := Lib.hid (hB25.out.far' hf6 id)
  have hB3 := Lib.hid (hB35.out.far' hf6 id)
  have hF0 := Lib.hid (hf5.out.then hf6)
  have hz6 := Lib.hid hf6.size
  have hbX' := Lib.hid hbX
  have hbO' := Lib.hid hbO
  have hbz' := Lib.hid hbz
  clear BL c1 hbX hbO hbz hf6 hX5 hN5 hB05 hB15 hB25 hB35 hf5
  go_wp2_with fail
  refine (wpIn_wide (n := 10)).1 ?_
  obtain ⟨aov, capv, rfl⟩ := q_form hbO'.out
  obtain ⟨L, hL⟩ : ∃ L, placesL M s = L := ⟨_, rfl⟩
  rw [hL] at hbO' hbX'
  have hL' := Lib.hid hL
  have hLf : L.length ≤ 65536 := by have := placesL_few M hs2; rw [hL] at this; omega
  have hvb : ∀ k, (Value.slice aov L.length capv).ownBlock = some k → w5.heap.size ≤ k ∧ k < W0.heap.size := fun k hk => hbO'.out.lt k hk
  have hvb' := Lib.hid hvb
  clear hL hvb FN
  have hord : h0 < h1 ∧ h1 < Bo ∧ h2 ≠ Bo ∧ h1 < h2 ∧ h2 < h3 ∧ Bo < h3 ∧ h3 < w5.heap.size ∧ w5.heap.size ≤ W0.heap.size := by
    have a0 := hh0'.out
    have a1 := hh1'.out
    have a2 := hz1.out
    have a3 : Wa.heap.size = W.heap.size + 1 := by rw [hWa'.out]; simp
    have a4 := hz2.out
    have a5 := hBo'.out
    have a6 := hz3.out
    have a7 := hh2'.out
    have a8 := hz4.out
    have a9 := hh3'.out
    have b1 := hz5.out
    have b2 := hz6.out
    have b3 : h2 ≠ Bo := fun e => by
      have hn := hN0.out.notBk hB2.out (by decide) (by decide) (by decide)
      exact hn (e ▸ hN0.out.block)
    refine ⟨?_, ?_, b3, ?_, ?_, ?_, ?_, ?_⟩ <;> omega
  have hord' := Lib.hid hord
  clear hord
  refine range_ok (by decide) rfl (enters_of Try.func34 (by kernel_rfl) rfl) (blocks_seq (10 - 1) (by decide) hb w5.heap.size _ M L hLf W0 hbX'.out hbO'.out) keepS_t (fun V l o o' hl h ho => keepS_put (B := W0.heap.size) (fun k hk => ?hK) V l o o' hl) (fun _ => rfl)
    (fun pre V => ∃ F, PI M s Bo h3 W0 F pre V) (fun _ _ _ => False) ?own ?ownx ⟨Fo, ?first⟩
    (fun pre y a' V => BOk L pre y V ∧ ∃ k F, PI M s Bo h3 W0 F pre V ∧ Bk V k 42 #[.int .i64 (y.1 : Nat), .int .i64 (y.2 : Nat)] ∧ Hold V (k + 1) (Rw (blk (sub M y.1 y.2))) ∧ ¬ F k ∧ ¬ F (k + 1) ∧ W0.heap.size ≤ k ∧
      a' = { tmps := #[.int .i64 x, .slice ao n cap, undef, undef, .pointer (some ⟨h0, 0, none⟩), .int .i64 (s : Nat), .pointer (some ⟨h1, 0, none⟩), .int .i64 (numM M : Nat), .pointer (some ⟨h2, 0, none⟩), .int .i64 0, .pointer (some ⟨h3, 0, none⟩), Value.func (Fn.func 34) #[] #[.pointer (some ⟨hb, 0, none⟩)], .pointer (some ⟨k, 0, none⟩), .pointer (some ⟨(k + 1), 0, none⟩), undef, undef, undef, undef, undef, undef, .int .i64 x, .int .i64 (s : Nat), .tuple #[.pointer (some ⟨Bm, 0, none⟩), .int .i64 (numM M : Nat)], .int .i64 (s : Nat), .slice ao n cap, .tuple #[.pointer (some ⟨Bm, 0, none⟩), .int .i64 (numM M : Nat)], .pointer (some ⟨Bm, 0, none⟩), .int .i64 (numM M : Nat), .tuple #[.pointer (some ⟨Bo, 0, none⟩), .int .i64 0], .int .i64 (s : Nat), .tuple #[.pointer (some ⟨Bo, 0, none⟩), .int .i64 0], .pointer (some ⟨Bo, 0, none⟩), .int .i64 0, .pointer (some ⟨Bm, 0, none⟩), .bool false, .bool false, .pointer (some ⟨Bo, 0, none⟩), .bool false, .bool false, .bool false, .int .i64 0, .bool false, .bool false, .pointer (some ⟨Bm, 0, none⟩), Value.func (Fn.func 34) #[] #[.pointer (some ⟨hb, 0, none⟩)], Value.func (Fn.func 34) #[] #[.pointer (some ⟨hb, 0, none⟩)], .bool false, Value.func (Fn.func 34) #[] #[.pointer (some ⟨hb, 0, none⟩)], .agg #[.int .i64 (y.1 : Nat), .int .i64 (y.2 : Nat)], .agg (Rw (blk (sub M y.1 y.2))), undef, undef, undef, undef, undef, undef, undef, undef, undef, undef, undef, undef, undef, undef, undef, undef, undef, undef, undef, undef, undef, undef, undef, undef, undef, undef, undef, undef, undef, undef, undef, undef, undef, undef, undef, undef, undef, undef, undef, undef, undef, undef, undef, undef, undef, undef, undef, undef, undef, undef, undef, undef, undef, undef, undef, undef, undef, undef, undef, undef, undef, undef, undef, undef, undef, undef, undef, undef, undef, undef, undef, undef, undef], defers := [] })
    ?hAx ?assign ?body ?done ?stop
  case hK =>
    rcases hk with rfl | e
    · exact hbX'.out.lt
    · exact (hvb'.out k e).2
  case own =>
    rintro u A B row ⟨F, hi⟩ hg hr
    exact ⟨F, hi.go hg hr⟩
  case ownx => exact fun c u A B row h _ _ => h
  case first =>
    refine ⟨hN0.out.congr fun r c => ?_, fun k hk => .inl (hFo'.out k hk), Far.refl _ _, hB3.out⟩
    rfl
  case hAx =>
    rintro pre y a' u A B row ⟨h9, k, F, hi, hc, hh, n1, n2, hz, e⟩ hg hr
    exact ⟨h9, k, F, hi.go hg hr, hc.kept hg hr, (Bk.kept (B := W0.heap.size) hh hg hr : Bk B (k + 1) 45 _), n1, n2, hz, e⟩
  case assign =>
    intro l pre y V KK hI hok hK
    obtain ⟨F, hi⟩ := hI
    have hzb : ∀ w, (zeroValue 45).run Try.prog w = .ok (.agg (Rw fun _ => 0)) w := (zero_of_info blockZero).1
    simp only [bencs, List.zip_toArray, List.zip_cons_cons, List.zip_nil_right, List.foldl_toArray', List.foldl_cons, List.foldl_nil, List.setIfInBounds_toArray, List.set_cons_succ, List.set_cons_zero]
    gi_wp2_with (first | (refine wpListIn_st rfl _ _ rfl _ rfl _ rfl (Hold.new (by simp)) ?_))
    obtain ⟨V1, hV1⟩ : ∃ V1, V1 = V.alloc (.cells #[.int .i64 (y.1 : Nat), .int .i64 (y.2 : Nat)] 42) := ⟨_, rfl⟩
    have z1 : V.heap.size + 1 = V1.heap.size := by rw [hV1]; simp
    have e9 : ∀ X, (V1.alloc (.cells (Rw fun _ => 0) 45)).setRow (V.heap.size + 1) X = V1.alloc (.cells X 45) := fun X => by rw [z1, World.setRow_alloc_new]
    have hf : Far (fun _ => False) V (V1.alloc (.cells (Rw (blk (sub M y.1 y.2))) 45)) := (hV1 ▸ (Far.refl _ V).alloc _ : Far (fun _ => False) V V1).alloc _
    have hc1 : Bk V1 V.heap.size 42 #[.int .i64 (y.1 : Nat), .int .i64 (y.2 : Nat)] := hV1 ▸ Bk.new rfl
    rw [← hV1, e9]
    have hsz := hi.far.size
    refine hK _ _ (keeps_far hf fun _ h => h.elim) ⟨KeepK.of_far hf fun k hk => ⟨?_, id⟩, hf.size⟩ ⟨F, hi.still hf⟩ ⟨hok, V.heap.size, F, hi.still hf, hc1.alloc _, Hold.new z1, fun h => ?_, fun h => ?_, hsz, rfl⟩
    · rcases hk with rfl | e
      · exact Nat.lt_of_lt_of_le hbX'.out.lt hsz
      · exact Nat.lt_of_lt_of_le (hvb'.out k e).2 hsz
    · have := hi.mx.lt _ h; omega
    · have := hi.mx.lt _ h; omega
  case body =>
    rintro l pre y a' V hl _ ⟨⟨hk1, hk2⟩, k, F, hi, hc, hh, n1, n2, hz, rfl⟩
    have hy : y ∈ L := List.mem_of_mem_take (hk1 ▸ (by simp : y ∈ pre ++ [y]))
    obtain ⟨hi1, hj1, hnz⟩ := mem_placesL.1 (hL'.out ▸ hy : y ∈ placesL M s)
    have hnz' := nzB_iff.1 hnz
    have hrise := rise_placesL M hs2
    have hnd := placesL_nodup M s
    rw [hL'.out] at hrise hnd
    have hlast := lastN_lt hrise hk1
    have hnp : ∀ p ∈ pre, id p ≠ (y.1, y.2) := fun p hp e => by
      have hs : (pre ++ [y]).Nodup := by rw [hk1]; exact hnd.sublist (List.take_sublist ..)
      exact (List.nodup_append.1 hs).2.2 p hp y (by simp) e
    have h16 := lns_le hs2
    have hXm : Mx V Bm Fm s M := hX0.out.kept hi.far fun q hq e => by have := hbm'.out q hq; have := hord'.out; omega
    have hin : ∀ r c, r < 64 → c < 64 → bt (blk (sub M y.1 y.2)) r c = true → 64 * y.1 + r < s ∧ 64 * y.2 + c < s := fun r c hr hc hb => by
      rw [bt_blk _ _ _ hc] at hb
      exact hXm.within _ _ hb
    have BK := qBlock_yes hXm y.1 y.2 hi1 hj1
    obtain ⟨N, hN⟩ : ∃ N, N = foldP id (fun p => blk (sub M p.1 p.2)) pre := ⟨_, rfl⟩
    have hb1 : Bk V h1 24 #[.pointer (some ⟨Bm, 0, none⟩)] := hB1.out.far' hi.far (by have := hord'.out; omega)
    have hb2 : Bk V h2 24 #[.pointer (some ⟨Bo, 0, none⟩)] := hB2.out.far' hi.far (by have := hord'.out; omega)
    have hi' := Lib.hid hi
    have hc' := Lib.hid hc
    have hh' := Lib.hid hh
    have hb1' := Lib.hid hb1
    have hb2' := Lib.hid hb2
    have hin' := Lib.hid hin
    have hnp' := Lib.hid hnp
    have hnz'' := Lib.hid hnz'
    have hlast' := Lib.hid hlast
    have hk1' := Lib.hid hk1
    have hN' := Lib.hid hN
    have hz' := Lib.hid hz
    have n1' := Lib.hid n1
    have n2' := Lib.hid n2
    have c1 : V.cell? ⟨h1, 0, none⟩ = some (.pointer (some ⟨Bm, 0, none⟩)) := hb1.cell 0
    have d0 : V.cell? ⟨k, 0, none⟩ = some (.int .i64 (y.1 : Nat)) := hc.cell 0
    have d1 : V.cell? ⟨k, 1, none⟩ = some (.int .i64 (y.2 : Nat)) := hc.cell 1
    have hzb : ∀ w, (zeroValue 45).run Try.prog w = .ok (.agg (Rw fun _ => 0)) w := (zero_of_info blockZero).1
    clear hi hc hh hb1 hb2 hin hnp hnz' hnz hrise hnd hlast hk1 hN hXm hy n1 n2 hz hk2
    gi_wp2_with (first
      | (refine ⟨trivial, ?_⟩; refine (CallsIn.inRound l (callsIn_wide.2 BK)).mono ?_; rintro e V1 ⟨rfl, hf1⟩; have hf1' := Lib.hid hf1; clear hf1 BK c1 d0 d1)
      | (refine wpListIn_st rfl _ _ rfl _ rfl _ rfl (Hold.new rfl) ?_; rw [World.setRow_alloc_new]
         obtain ⟨k4, hk4⟩ : ∃ k4, k4 = V1.heap.size := ⟨_, rfl⟩
         obtain ⟨V2, hV2⟩ : ∃ V2, V2 = V1.alloc (.cells (Rw (blk (sub M y.1 y.2))) 45) := ⟨_, rfl⟩
         rw [← hk4, ← hV2]
         have hf2 : Far (fun _ => False) V V2 := hV2 ▸ hf1'.out.alloc _
         have hm2 : Hold V2 k4 (Rw (blk (sub M y.1 y.2))) := hV2 ▸ Hold.new hk4
         have hi2 := hi'.out.still hf2
         have n3 : ¬ F k4 := fun h => by have := hi'.out.mx.lt _ h; have := hf1'.out.size; omega
         have hz2v : V2.heap.size = k4 + 1 := by rw [hV2]; simp [hk4]
         have hkk4 : k + 1 < k4 := by have := hh'.out.lt; have := hf1'.out.size; omega
         have hc2 := hc'.out.far' hf2 id
         have hh2v : Hold V2 (k + 1) (Rw (blk (sub M y.1 y.2))) := Bk.far' (t := 45) hh'.out hf2 id
         have hb22 := hb2'.out.far' hf2 id
         have P1 := qPut_yes hi2.mx y.1 y.2 hi1 hj1 (blk_wf _) hin'.out
         rw [new_once hnz''.out fun r c hr hc => foldP_none hnp'.out r c hr hc] at P1
         have c2 : V2.cell? ⟨h2, 0, none⟩ = some (.pointer (some ⟨Bo, 0, none⟩)) := hb22.cell 0
         have d0 : V2.cell? ⟨k, 0, none⟩ = some (.int .i64 (y.1 : Nat)) := hc2.cell 0
         have d1 : V2.cell? ⟨k, 1, none⟩ = some (.int .i64 (y.2 : Nat)) := hc2.cell 1
         have x3 := hh2v.range
         have hi2' := Lib.hid hi2
         have hm2' := Lib.hid hm2
         have hc2' := Lib.hid hc2
         have hh2' := Lib.hid hh2v
         have hb22' := Lib.hid hb22
         have hf2' := Lib.hid hf2
         have n3' := Lib.hid n3
         have hz2' := Lib.hid hz2v
         have hkk4' := Lib.hid hkk4
         clear hk4 hV2 hf2 hm2 hi2 n3 hz2v hkk4 hc2 hh2v hb22 hf1')
      | (refine wpListIn_lf rfl _ rfl _ 0 rfl x3 ?_)
      | (refine ⟨trivial, ?_⟩; refine (CallsIn.inRound l (callsIn_wide.2 P1)).mono ?_; rintro e V3 ⟨rfl, F3, hX3, hv3⟩
         have P2 := qPut_yes hX3 y.1 y.2 hi1 hj1 (blk_wf _) hin'.out
         rw [new_twice] at P2
         clear P1 c2 d0 d1 x3
         have m1 : ¬ F k := n1'.out
         have hc3 := hc2'.out.far' hv3.far m1
         have hh3v : Hold V3 (k + 1) (Rw (blk (sub M y.1 y.2))) := Bk.far' (t := 45) hh2'.out hv3.far n2'.out
         have hb23 := hb22'.out.far' hv3.far fun h => by rcases hi2'.out.own _ h with e | e <;> have := hord'.out <;> omega
         have c2 : V3.cell? ⟨h2, 0, none⟩ = some (.pointer (some ⟨Bo, 0, none⟩)) := hb23.cell 0
         have d0 : V3.cell? ⟨k, 0, none⟩ = some (.int .i64 (y.1 : Nat)) := hc3.cell 0
         have d1 : V3.cell? ⟨k, 1, none⟩ = some (.int .i64 (y.2 : Nat)) := hc3.cell 1
         have x3 := hh3v.range
         have hv3' := Lib.hid hv3
         clear hX3 hv3 m1 hc3 hh3v hb23)
      | (refine ⟨trivial, ?_⟩; refine (CallsIn.inRound l (callsIn_wide.2 P2)).mono ?_; rintro e V4 ⟨rfl, F4, hX4, hv4⟩
         clear P2 c2 d0 d1 x3
         have hmv := hv3'.out.trans hv4
         have hc4 := hc2'.out.far' hmv.far n1'.out
         have hh4 : Hold V4 (k + 1) (Rw (blk (sub M y.1 y.2))) := Bk.far' (t := 45) hh2'.out hmv.far n2'.out
         have hm4 : Hold V4 k4 (Rw (blk (sub M y.1 y.2))) := Bk.far' (t := 45) hm2'.out hmv.far n3'.out
         have hl4 := hi2'.out.last.far' hmv.far fun h => by rcases hi2'.out.own _ h with e | e <;> have := hord'.out <;> omega
         have d0 : V4.cell? ⟨k, 0, none⟩ = some (.int .i64 (y.1 : Nat)) := hc4.cell 0
         have d1 : V4.cell? ⟨k, 1, none⟩ = some (.int .i64 (y.2 : Nat)) := hc4.cell 1
         have x3 := hh4.range
         have x4 := hm4.range
         have l3 : V4.cell? ⟨h3, 0, none⟩ = some (.int .i64 (lastN pre)) := hl4.cell 0
         have l4 := hl4.free 0
         have E := fun w' => eq_self (blk (sub M y.1 y.2)) w'
         have hX4' := Lib.hid ((hX4.congr (fun r c => (orM_same new_twice r c).symm)).congr (fun r c => (foldP_app id (fun p => blk (sub M p.1 p.2)) pre y r c).symm))
         have hl4' := Lib.hid hl4
         have hmv' := Lib.hid hmv
         have q1 : (y.1 : Int) < 16 := by omega
         have q2 : (y.2 : Int) < 16 := by omega
         have q3 : ¬ ((y.1 : Int) * 16 + (y.2 : Int) ≤ lastN pre) := by have := hlast'.out; omega
         clear hX4 hv4 hmv hc4 hh4 hm4 hl4)
      | (refine wpListIn_lf rfl _ rfl _ 0 rfl x4 ?_))
    have hS : Far (fun q => q = h3 ∨ F q) V (V4.setCell ⟨h3, 0, none⟩ (.int .i64 ((y.1 : Int) * 16 + (y.2 : Int)))) :=
      (((hf2'.out.mono (G := fun q => q = h3 ∨ F q) fun _ _ h => h.elim).trans (hmv'.out.far.mono (G := fun q => q = h3 ∨ F q) fun _ _ h => .inr h) fun _ _ h => h).set ⟨h3, 0, none⟩ _ fun _ => .inl rfl)
    have hsz := hi'.out.far.size
    have hZ := hz'.out
    have hF4 : ∀ q, F4 q → q = Bo ∨ W0.heap.size ≤ q := fun q hq => by
      rcases hmv'.out.more q hq with e | e
      · exact hi'.out.own q e
      · have := hf2'.out.size; omega
    have n5 : ¬ F4 h3 := fun h => by rcases hF4 _ h with e | e <;> have := hord'.out <;> omega
    refine ⟨⟨hS.size, fun q o _ hq ho => (hS.block q (Array.getElem?_eq_some_iff.1 hq).1 fun e => ?_).trans hq⟩, ⟨KeepK.of_far hS fun q hq => ?_, hS.size⟩, F4, ?_, hF4, ?_, ?_⟩
    · rcases e with rfl | e
      · have := hi'.out.last; unfold Bk at this; rw [hq] at this; cases this; cases ho
      · have := hi'.out.mx.cells e hq; rw [ho] at this; cases this
    · have hw5 : w5.heap.size ≤ q ∧ q < W0.heap.size := by
        rcases hq with rfl | e
        · exact ⟨hbz'.out, hbX'.out.lt⟩
        · exact hvb'.out q e
      refine ⟨by omega, ?_⟩
      rintro (e | e)
      · have := hord'.out; omega
      · rcases hi'.out.own _ e with e | e <;> have := hord'.out <;> omega
    · exact hX4'.out.kept ((Far.refl (fun q => q = h3) V4).set ⟨h3, 0, none⟩ _ fun _ => rfl) fun q hq e => n5 (e ▸ hq)
    · exact hi'.out.far.trans hS fun q hq e => by
        rcases e with e | e
        · exact .inl e
        · rcases hi'.out.own _ e with e | e
          · exact .inr e
          · omega
    · rw [lastN_app]
      exact hl4'.out.set 0 _
  case done =>
    rintro D xs V hD rfl ⟨F, hi⟩ hK
    have hXm : Mx V Bm Fm s M := hX0.out.kept hi.far fun q hq e => by have := hbm'.out q hq; have := hord'.out; omega
    have hXo : Mx V Bo F s M := hi.mx.congr fun r c => by rw [← hL'.out]; exact fold_copy hXm.within r c
    have hb1 : Bk V h1 24 #[.pointer (some ⟨Bm, 0, none⟩)] := hB1.out.far' hi.far (by have := hord'.out; omega)
    have hb2 : Bk V h2 24 #[.pointer (some ⟨Bo, 0, none⟩)] := hB2.out.far' hi.far (by have := hord'.out; omega)
    have hb0 : Bk V h0 4 #[.bool false] := hB0.out.far' hi.far (by have := hord'.out; omega)
    have c1 : V.cell? ⟨h1, 0, none⟩ = some (.pointer (some ⟨Bm, 0, none⟩)) := hb1.cell 0
    have c2 : V.cell? ⟨h2, 0, none⟩ = some (.pointer (some ⟨Bo, 0, none⟩)) := hb2.cell 0
    have SM := qsame_any hXm hXo
    have hDn : D ≠ h0 := by have := hord'.out; omega
    have hG' := Lib.hid hi.far
    have hb0' := Lib.hid hb0
    have hK' := Lib.hid hK
    clear hi hXm hXo hb1 hb2 hb0 hK
    go_wp2_with (first | (refine SM.mono ?_; rintro e V1 ⟨v, rfl, hv, hf1⟩; have hvt : v = true := hv.2 ⟨rfl, fun _ _ => rfl⟩; subst hvt; have hf1' := Lib.hid hf1; clear hf1 hv SM c1 c2))
    refine (awake02_any V1).mono ?_
    rintro e V2 ⟨rfl, hf2⟩
    have hv2 : Far (fun _ => False) V V2 := hf1'.out.then hf2
    have r2 := Lib.hid (hb0'.out.far' hv2 id)
    have g0 : V2.cell? ⟨h0, 0, none⟩ = some (.bool false) := r2.out.cell 0
    have g1 := r2.out.free 0
    have hKV : V2.heap[D]? = some (.deferred (some [])) := (hv2.block D (Array.getElem?_eq_some_iff.1 hK'.out).1 id).trans hK'.out
    have hKS := Lib.hid ((heap_setCell_other V2 ⟨h0, 0, none⟩ D (.bool true) hDn).trans hKV)
    have R1 := Lib.hid (show Bk ((V2.setCell ⟨h0, 0, none⟩ (.bool true)).putObj D (.deferred none)) h0 4 #[.bool true] from (World.putObj_heap_other (fun e => hDn e.symm)).trans (r2.out.set 0 (.bool true)))
    have hZ := Lib.hid (show Far (fun k => W.heap.size ≤ k) W ((V2.setCell ⟨h0, 0, none⟩ (.bool true)).putObj D (.deferred none)) from
      ((((hF0.out.mono (G := fun k => W.heap.size ≤ k) fun _ _ h => h.elim).trans (hG'.out.mono (G := fun k => W.heap.size ≤ k) fun k _ e => by have := hord'.out; have := hh0'.out; omega) fun _ _ h => h).trans (hv2.mono (G := fun k => W.heap.size ≤ k) fun _ _ h => h.elim) fun _ _ h => h).set ⟨h0, 0, none⟩ (.bool true) (fun _ => by have := hh0'.out; show W.heap.size ≤ h0; omega)).grown (grownBy_putObj' _ D (.deferred none)) (fun k hk e => by cases e; have := hF0.out.size; omega))
    clear hf2 hKV hv2
    go_wp2_with fail
    refine ⟨by simp, .inl ⟨D, _, rfl, run_takeDeferred hKS.out, ?_⟩⟩
    refine ⟨.bool true, ?_, rfl, hZ.out.mono fun k hk h => by omega⟩
    have hc := R1.out.cell 0
    simp [results, Try.f4, go_sem, hc]
  case stop => exact fun D c pre V _ _ h _ => h.elim
end
end Go.Proofs.Ytoaeeojnelmlnaa
