/-
  The document's Add, its long case, walked.
-/
import Derived.Test.YtjkfieilaahejaaRLongL14
namespace Go.Proofs.Ytjkfieilaahejaa
open Go.RowKit
set_option linter.unusedVariables false
set_option linter.unusedSimpArgs false
section
set_option maxHeartbeats 8000000
set_option maxRecDepth 100000
theorem radd_long (B gL cL : Nat) (qv : Value) (T : List Tr) (s : Fs) (h : Int) (v : Value) (l : List Sy) (w : World) (hM : RM w B gL cL qv T s) (hv : QB w B v l) (hps : s.ps.length + l.length * 3 + 9 ≤ 1099511627776) (hn : s.n + l.length * 3 + 9 ≤ 1099511627776) (hsh : shortB l = false) (h1 : l.length ≠ 1) (hb : l.length ≤ 1026) (hlk : ∀ x ∈ l, 0 ≤ x.2 ∧ (x.1 = true → x.2 < 16)) :
    Calls Try.prog 40 #[.agg #[.int .i64 (s.n : Int), qv, .slice (some ⟨gL, 0, none⟩) 16 cL, .int .i64 (eI s.e)], .agg #[.int .i64 h, v]] w fun e w' => APost B gL cL qv (addR s h l) w e w' := by
  obtain ⟨qo, qc, rfl⟩ := Src.form (Src.own hM.row)
  obtain ⟨vo, vc, rfl⟩ := Src.form hv.1
  obtain ⟨fb, hfb⟩ : ∃ i, i = w.heap.size := ⟨_, rfl⟩
  obtain ⟨pb, hpb⟩ : ∃ i, i = fb + 1 := ⟨_, rfl⟩
  obtain ⟨kR, hkR⟩ : ∃ i, i = pb + 1 := ⟨_, rfl⟩
  obtain ⟨n, hnl⟩ : ∃ n, n = l.length := ⟨_, rfl⟩
  obtain ⟨w0, hw0⟩ : ∃ w0, w0 = (w.alloc (.cells #[.int .i64 (s.n : Int), .slice qo T.length qc, .slice (some ⟨gL, 0, none⟩) 16 cL, .int .i64 (eI s.e)] 70)).alloc (.cells #[.int .i64 h, .slice vo n vc] 44) := ⟨_, rfl⟩
  obtain ⟨W, hW⟩ : ∃ W, W = w0.alloc (.cells #[.int .i64 0, .slice none 0 0, .slice none 0 0, .int .i64 0] 70) := ⟨_, rfl⟩
  have z0 : w0.heap.size = kR := by rw [hw0]; simp [hkR, hpb, hfb]
  have hX : Bk W fb 70 #[.int .i64 (s.n : Int), .slice qo T.length qc, .slice (some ⟨gL, 0, none⟩) 16 cL, .int .i64 (eI s.e)] := hW ▸ (hw0 ▸ (Bk.new hfb).alloc _ : Bk w0 fb 70 #[.int .i64 (s.n : Int), .slice qo T.length qc, .slice (some ⟨gL, 0, none⟩) 16 cL, .int .i64 (eI s.e)]).alloc _
  have hY : Bk W pb 44 #[.int .i64 h, .slice vo n vc] := hW ▸ (hw0 ▸ Bk.new (by simp [hpb, hfb]) : Bk w0 pb 44 #[.int .i64 h, .slice vo n vc]).alloc _
  have hR : Bk W kR 70 #[.int .i64 0, .slice none 0 0, .slice none 0 0, .int .i64 0] := hW ▸ Bk.new z0.symm
  have hF : Far (fun _ => False) w W := hW ▸ (hw0 ▸ ((Far.refl _ w).alloc _).alloc _ : Far (fun _ => False) w w0).alloc _
  have hMW := hM.move hF
  have hvW : QB W B (.slice vo n vc) l := by rw [hnl]; exact hv.go hF (fun _ _ q => q.elim)
  have hBf : B ≤ fb := by have := hM.hi; omega
  have hTl : T.length = s.ps.length := by rw [← hM.pl, List.length_map]
  have hqp : ∀ k, (Value.slice qo T.length qc).ownBlock = some k → k < fb := fun k e => by have := (hM.row.lt k e).2; omega
  have hgp : gL < fb := by have := (row_in hM.lab).2.2; omega
  have hTb : T.length + n * 3 + 9 ≤ 1099511627776 := by omega
  have hnb : s.n + n * 3 + 9 ≤ 1099511627776 := by omega
  have hord : fb < pb ∧ pb < kR := by omega
  rw [← hnl]
  have hfb' := Lib.hid hfb
  have hpb' := Lib.hid hpb
  have hkR' := Lib.hid hkR
  have hnl' := Lib.hid hnl
  have hw0' := Lib.hid hw0
  have hW' := Lib.hid hW
  have hX' := Lib.hid hX
  have hY' := Lib.hid hY
  have hR' := Lib.hid hR
  have hF' := Lib.hid hF
  have hMW' := Lib.hid hMW
  have hvW' := Lib.hid hvW
  have hBf' := Lib.hid hBf
  have hqp' := Lib.hid hqp
  have hfB : fb < W.heap.size := hX.lt
  clear hfb hpb hkR hnl hw0 hW z0 hX hY hR hF hMW hM hv hvW hBf hTl hqp hps hn
  have x0 : W.cell? ⟨fb, 0, none⟩ = some (.int .i64 (s.n : Int)) := hX'.out.cell 0
  have x1 : W.cell? ⟨fb, 1, none⟩ = some (.slice qo T.length qc) := hX'.out.cell 1
  have x2 : W.cell? ⟨fb, 2, none⟩ = some (.slice (some ⟨gL, 0, none⟩) 16 cL) := hX'.out.cell 2
  have x3 : W.cell? ⟨fb, 3, none⟩ = some (.int .i64 (eI s.e)) := hX'.out.cell 3
  have y0 : W.cell? ⟨pb, 0, none⟩ = some (.int .i64 h) := hY'.out.cell 0
  have y1 : W.cell? ⟨pb, 1, none⟩ = some (.slice vo n vc) := hY'.out.cell 1
  have hl0 : l.length ≠ 0 := fun e => by
    have : l = [] := List.length_eq_zero_iff.1 e
    subst this
    cases hsh
  have hres := Lib.hid (show addR s h l = chainR (labsF l s).2 (labsF l s).1 h by unfold addR; rw [if_neg (by rw [hsh]; decide), if_neg h1, if_neg (by omega)])
  have hn2 : 2 ≤ n ∧ n ≤ 1026 := by have := hnl'.out; omega
  have g0 : ((n : Int) == 0) = false := by rw [beq_eq_false_iff_ne]; omega
  have g1 : ((n : Int) == 1) = false := by rw [beq_eq_false_iff_ne]; omega
  have g2 : decide ((1026 : Int) < (n : Int)) = false := by rw [decide_eq_false_iff_not]; omega
  have hlk' := Lib.hid hlk
  have hL0 := Lib.hid (show LP W W B gL cL fb pb kR (.slice qo T.length qc) h (.slice vo n vc) l s (.slice qo T.length qc) T (.slice none 0 0) [] from ⟨hX'.out, hY'.out, hR'.out, hMW'.out, hvW'.out, Far.refl _ _, fun k e => .inl (.inl e), World.ownsRow_nil _ _ _ _, ⟨(row_in hMW'.out.lab).2.2, hY'.out.lt, hfB, hR'.out.lt, hord.1, hord.2, hBf'.out⟩, fun k e q => by have := hqp'.out k e; omega⟩)
  clear hsh h1 hl0 hb hlk
  go_enter Try.func40, Try.ntmps40
  go_upto_region 1 with fail
  rw [← hfb'.out, ← hpb'.out, ← hkR'.out, ← hw0'.out, ← hW'.out]
  go_wp2_with fail
  clear x0 x1 x2 x3 y0 y1
  go_loopw [6, 7, 8] (fun lv iv kv wr => ∃ (i : Nat) (q : Option Addr) (c : Nat) (T' : List Tr), iv = .int .i64 i ∧ i ≤ n ∧ LP W wr B gL cL fb pb kR (.slice qo T.length qc) h (.slice vo n vc) l (labsF (l.take i) s).1 (.slice q T'.length c) T' lv (labsF (l.take i) s).2) (fun _ iv _ _ => n - (intOf iv).toNat)
  case atStart => exact ⟨0, qo, qc, T, rfl, Nat.zero_le _, hL0.out⟩
  case round =>
    obtain ⟨i, q, c, T', rfl, hi, hL⟩ := hrel
    have hTs : T.length = s.ps.length := by have := congrArg List.length hL0.out.rm.pl; simpa using this
    obtain ⟨ln, lp, ll⟩ := labsF_len (l.take i) s
    rw [List.length_take, ← hnl'.out, Nat.min_eq_left hi] at ln lp ll
    obtain ⟨lo, lc, rfl⟩ := Src.form (Src.own hL.row)
    obtain ⟨s1, hs1⟩ : ∃ s1, s1 = (labsF (l.take i) s).1 := ⟨_, rfl⟩
    obtain ⟨xs, hxs⟩ : ∃ xs, xs = (labsF (l.take i) s).2 := ⟨_, rfl⟩
    rw [← hs1] at hL ln lp
    rw [← hxs] at hL ll ⊢
    have hTl : T'.length = s1.ps.length := by rw [← hL.rm.pl, List.length_map]
    have hs1' := Lib.hid hs1
    have hxs' := Lib.hid hxs
    have hL' := Lib.hid hL
    clear hs1 hxs
    by_cases hlt : i < n
    · have e1 : decide ((i : Int) < (n : Int)) = true := by rw [decide_eq_true_eq]; omega
      have hii : (i : Int) < (n : Int) := by omega
      obtain ⟨⟨xb, xk⟩, hx⟩ : ∃ x, l[i]? = some x := ⟨l[i]'(by have := hnl'.out; omega), List.getElem?_eq_getElem _⟩
      obtain ⟨b, off, c', he, hbl, c0, c1⟩ := hL.qb.1.sym hx
      simp only [Value.slice.injEq] at he
      obtain ⟨rfl, hnn, rfl⟩ := he
      clear hnn
      obtain ⟨hk0, hk1⟩ := hlk'.out _ (List.mem_of_getElem? hx)
      simp only [] at hk0 hk1 c0 c1
      obtain ⟨k, rfl⟩ : ∃ k : Nat, xk = (k : Int) := ⟨xk.toNat, by omega⟩
      have hsn := Lib.hid (show labsF (l.take (i + 1)) s = ((lab1 s1 (xb, (k : Int))).1, xs ++ [(lab1 s1 (xb, (k : Int))).2]) by
        obtain ⟨hi9, e9⟩ := List.getElem?_eq_some_iff.1 hx
        rw [List.take_succ_eq_append_getElem hi9, e9, labsF_snoc, ← hs1'.out, ← hxs'.out])
      have SY : Hid (Calls Try.prog 62 #[.agg #[.int .i64 (s1.n : Int), .slice q T'.length c, .slice (some ⟨gL, 0, none⟩) 16 cL, .int .i64 (eI s1.e)], .agg #[.bool xb, .int .i64 (k : Int)]] wr.drew fun e w' => ∃ u, e = .returned u ∧ ∃ q4 T4, u = .tuple #[.agg #[.int .i64 ((lab1 s1 (xb, (k : Int))).1.n : Int), q4, .slice (some ⟨gL, 0, none⟩) 16 cL, .int .i64 (eI (lab1 s1 (xb, (k : Int))).1.e)], .int .i64 (lab1 s1 (xb, (k : Int))).2.2] ∧ RM w' B gL cL q4 T4 (lab1 s1 (xb, (k : Int))).1 ∧ Far (OF (.slice q T'.length c) gL) wr.drew w' ∧ (∀ i, q4.ownBlock = some i → (Value.slice q T'.length c).ownBlock = some i ∨ wr.drew.heap.size ≤ i)) := Lib.hid ((symbol_any B gL cL (.slice q T'.length c) T' s1 xb k wr.drew (hL.rm.move (drew_far _)) (fun e => by have := hk1 e; omega) (by omega) (by omega)).mono fun e w' ⟨q4, T4, he, h2⟩ => ⟨_, he, q4, T4, rfl, h2⟩)
      obtain ⟨s4, hs4⟩ : ∃ s4, s4 = (lab1 s1 (xb, (k : Int))).1 := ⟨_, rfl⟩
      obtain ⟨x4, hx4⟩ : ∃ x4, x4 = (lab1 s1 (xb, (k : Int))).2 := ⟨_, rfl⟩
      rw [← hs4, ← hx4] at SY hsn
      have z0 : wr.cell? ⟨fb, 0, none⟩ = some (.int .i64 (s1.n : Int)) := hL.box.cell 0
      have z1 : wr.cell? ⟨fb, 1, none⟩ = some (.slice q T'.length c) := hL.box.cell 1
      have z2 : wr.cell? ⟨fb, 2, none⟩ = some (.slice (some ⟨gL, 0, none⟩) 16 cL) := hL.box.cell 2
      have z3 : wr.cell? ⟨fb, 3, none⟩ = some (.int .i64 (eI s1.e)) := hL.box.cell 3
      have z4 : wr.cell? ⟨pb, 1, none⟩ = some (.slice (some ⟨b, off, none⟩) n vc) := hL.prod.cell 1
      have hnf := Lib.hid hL.ofBlk.1
      have hxl : xs.length ≤ n := by omega
      clear hs4 hx4 hL hx hk0 hk1 hTl hTs ll ln lp
      go_wp2_with fail
      go_region_law
        (first
          | (refine step_call rfl 62 #[.agg #[.int .i64 (s1.n : Int), .slice q T'.length c, .slice (some ⟨gL, 0, none⟩) 16 cL, .int .i64 (eI s1.e)], .agg #[.bool xb, .int .i64 (k : Int)]] ?_ SY.out ?_; (go_simp); rintro u4 w4 ⟨q4, T4, rfl, hM4, hf4, ho4⟩; obtain ⟨q4o, q4c, rfl⟩ := Src.form (Src.own hM4.row); have FW4 := Lib.hid (((drew_far wr).mono (G := OF (.slice q T'.length c) gL) fun _ _ h => h.elim).trans hf4 fun _ _ h => h); have hX4 := hL'.out.box.far' FW4.out hnf.out; have f0 : w4.frozen? ⟨fb, 0, none⟩ = false := hX4.free 0; have f1 : w4.frozen? ⟨fb, 1, none⟩ = false := hX4.free 1; have f2 : w4.frozen? ⟨fb, 2, none⟩ = false := hX4.free 2; have f3 : w4.frozen? ⟨fb, 3, none⟩ = false := hX4.free 3; have k0 : w4.cell? ⟨fb, 0, none⟩ = some (.int .i64 (s1.n : Int)) := hX4.cell 0; have k1 : w4.cell? ⟨fb, 1, none⟩ = some (.slice q T'.length c) := hX4.cell 1; have k2 : w4.cell? ⟨fb, 2, none⟩ = some (.slice (some ⟨gL, 0, none⟩) 16 cL) := hX4.cell 2; have k3 : w4.cell? ⟨fb, 3, none⟩ = some (.int .i64 (eI s1.e)) := hX4.cell 3; have hM4' := Lib.hid hM4; have ho4' := Lib.hid ho4; clear hM4 hf4 ho4 hX4))
      all_goals
        have hL6' := LP.symbol hL'.out hM4'.out FW4.out ho4'.out
        obtain ⟨W6, hW6⟩ : ∃ W6, W6 = ((((w4.setCell ⟨fb, 0, none⟩ (.int .i64 (s4.n : Int))).setCell ⟨fb, 1, none⟩ (.slice q4o T4.length q4c)).setCell ⟨fb, 2, none⟩ (.slice (some ⟨gL, 0, none⟩) 16 cL)).setCell ⟨fb, 3, none⟩ (.int .i64 (eI s4.e))) := ⟨_, rfl⟩
        rw [← hW6]
        have hL6 := Lib.hid (show LP W W6 B gL cL fb pb kR (.slice qo T.length qc) h _ l s4 (.slice q4o T4.length q4c) T4 (.slice lo xs.length lc) xs from by rw [hW6]; exact hL6')
        clear hL6' hW6 f0 f1 f2 f3 k0 k1 k2 k3 z0 z1 z2 z3 z4 c0 c1
        obtain ⟨ii, iz, ii1, ii2, ii3, ii4, ii5⟩ := info3 info_i
        have A7 : 0 < 1 := by decide
        have B1 := Lib.hid (World.ownsRow.alloc hL6.out.row (.cells #[.int .i64 x4.2] 3))
        have B2 := Lib.hid (src_new W6 3 [.int .i64 x4.2])
        have B3 := Lib.hid (show ∀ u ∈ [(.int .i64 x4.2 : Value)], u.oneCell' = true by simp [Value.oneCell'])
        have B4 : xs.length + 1 ≤ maxLen := by unfold maxLen; omega
        have B5 : (xs.length + 1) * 8 ≤ 140737488355328 := by omega
        have B6 : W.heap.size ≤ (W6.alloc (.cells #[.int .i64 x4.2] 3)).heap.size := Nat.le_trans hL6.out.far.size (alloc_far0 _ _).size
        go_wp2_with (at_builtin; refine wpList_app rfl _ _ 33 rfl W.heap.size 3 ii iz 1 8 Try.underlying33 ii1 ii2 ii3 ii4 ii5 A7 (.slice lo xs.length lc) xs.length _ rfl B1.out (.slice (some ⟨W6.heap.size, 0, none⟩) 1 1) 1 _ rfl B2.out B3.out B4 B5 B6 ?_; intro v2 w5 ho5 hg5; have ho5' := Lib.hid ho5; have hg5' := Lib.hid hg5; clear ho5 hg5)
        go_roundw
        case rel => exact ⟨i + 1, q4o, q4c, T4, by go_num, by omega, by rw [hsn.out]; exact LP.more hL6.out (((alloc_far0 _ _).mono (G := fun k => (Value.slice lo xs.length lc).ownBlock = some k) fun _ _ q => q.elim).trans (grown_far hg5'.out) fun _ _ q => q) ho5'.out⟩
        case measure => simp [intOf]; omega
    · have e1 : decide ((i : Int) < (n : Int)) = false := by rw [decide_eq_false_iff_not]; omega
      have e2 : decide (i < n) = false := by rw [decide_eq_false_iff_not]; exact hlt
      have hlf := Lib.hid (show labsF l s = (s1, xs) by
        have htk : l.take i = l := List.take_of_length_le (by have := hnl'.out; omega)
        rw [hs1'.out, hxs'.out, htk])
      have b1 : s1.n ≤ s.n + n := by omega
      have b2 : s1.ps.length ≤ s.ps.length + n := by omega
      have b3 : s.ps.length + n * 3 + 9 ≤ 1099511627776 := by omega
      have hxn := Lib.hid (show xs.length = n by omega)
      have y0 : wr.cell? ⟨pb, 0, none⟩ = some (.int .i64 h) := hL.prod.cell 0
      obtain ⟨wo, hwo⟩ : ∃ W, W = wr := ⟨_, rfl⟩
      rw [← hwo] at y0 hL' ⊢
      clear hwo hL hTl hTs ll ln lp hs1' hxs'
      go_wp2_with fail
      clear y0
      go_loopw [9, 10] (fun hv jv wr => ∃ (j : Nat) (q : Option Addr) (c : Nat) (T' : List Tr) (s2 : Fs) (hd : Int), hv = .int .i64 hd ∧ jv = .int .i64 j ∧ j + 2 ≤ n ∧ s2.n ≤ s.n + n + j ∧ s2.ps.length ≤ s.ps.length + n + j ∧ chainR (xs.drop j) s2 hd = chainR xs s1 h ∧ LP W wr B gL cL fb pb kR (.slice qo T.length qc) h (.slice vo n vc) l s2 (.slice q T'.length c) T' (.slice lo xs.length lc) xs) (fun _ jv _ => n - (intOf jv).toNat)
      case atStart => exact ⟨0, q, c, T', s1, h, rfl, rfl, by omega, by omega, by omega, rfl, hL'.out⟩
      case round =>
        obtain ⟨j, q3, c2, T2, s2, hd, rfl, rfl, hj, hsn2, hsp2, hch, hL2⟩ := hrel
        have hL2' := Lib.hid hL2
        have hT2 : T2.length = s2.ps.length := by rw [← hL2.rm.pl, List.length_map]
        have hch' := Lib.hid hch
        by_cases hlt2 : j + 2 < n
        · have e3 : decide ((j : Int) + 2 < (n : Int)) = true := by rw [decide_eq_true_eq]; omega
          have hxj : j < xs.length := by have := hxn.out; omega
          have hjI : (j : Int) < (xs.length : Int) := by omega
          obtain ⟨xj, hx⟩ : ∃ x, xs[j]? = some x := ⟨xs[j], List.getElem?_eq_getElem hxj⟩
          obtain ⟨lb, loff, lc', he, hlb, hcl⟩ := (Src.own hL2.row).at (by simp [IL]; omega)
          simp only [Value.slice.injEq] at he
          obtain ⟨rfl, hnn, rfl⟩ := he
          clear hnn
          have zl : wr.cell? ⟨lb, loff + j, none⟩ = some (.int .i64 xj.2) := hcl j _ (by simp [IL, hx])
          have z0 : wr.cell? ⟨fb, 0, none⟩ = some (.int .i64 (s2.n : Int)) := hL2.box.cell 0
          have z1 : wr.cell? ⟨fb, 1, none⟩ = some (.slice q3 T2.length c2) := hL2.box.cell 1
          have TW : Hid (Calls Try.prog 61 #[.int .i64 hd, .int .i64 xj.2, .int .i64 (s2.n : Int)] wr.drew fun e w' => ∃ u, e = .returned u ∧ ∃ v, u = .agg #[.int .i64 hd, v] ∧ (∀ B, B ≤ wr.drew.heap.size → QB w' B v [(false, xj.2), (false, (s2.n : Int))]) ∧ Far (fun _ => False) wr.drew w') := Lib.hid ((two_any hd xj.2 (s2.n : Int) wr.drew).mono fun e w' ⟨v, he, hq⟩ => ⟨_, he, v, rfl, hq⟩)
          obtain ⟨pi, pz, pi1, pi2, pi3, pi4, pi5⟩ := info3 info_prod
          have A7 : 0 < 2 := by decide
          have B4 : T2.length + 1 ≤ maxLen := by unfold maxLen; omega
          have B5 : (T2.length + 1) * 32 ≤ 140737488355328 := by omega
          have hqk := Lib.hid (show (Value.slice q3 T2.length c2).ownBlock ≠ some fb from fun e => hL2.ofBlk.1 (.inl e))
          have hll : lb < wr.heap.size := hlb
          have RM8 := Lib.hid (round_math hlf.out hx hlt2 hxn.out hch (s0 := s) hsn2 hsp2)
          clear hL2 hch hx hcl hlb hT2
          go_wp2_with fail
          go_region_law
            (first
              | (refine step_call rfl 61 #[.int .i64 hd, .int .i64 xj.2, .int .i64 (s2.n : Int)] ?_ TW.out ?_; (go_simp); rintro u8 w8 ⟨v8, rfl, hq8, hf8⟩; obtain ⟨v8o, v8c, rfl⟩ := Src.form (hq8 0 (Nat.zero_le _)).1; have hq8' := Lib.hid hq8; have FW8 := Lib.hid ((drew_far wr).then hf8); have hX8 := Lib.hid (hL2'.out.box.far' FW8.out id); have hM8 := Lib.hid (hL2'.out.rm.move FW8.out); have s8 : w8.cell? ⟨fb, 1, none⟩ = some (.slice q3 T2.length c2) := hX8.out.cell 1; have s9 : w8.cell? ⟨fb, 0, none⟩ = some (.int .i64 (s2.n : Int)) := hX8.out.cell 0; have lf : fb < w8.heap.size := hX8.out.lt; have lfn : fb ≠ w8.heap.size := (by omega); have B1 := Lib.hid (hM8.out.row.alloc (.cells #[.int .i64 hd, .slice v8o 2 v8c] 44)); have B7 := Lib.hid (World.news_of_block (w := (w8.alloc (.cells #[.int .i64 hd, .slice v8o 2 v8c] 44))) (heap_alloc_new w8 _)); have B3 := Lib.hid (show ∀ u ∈ [Value.int .i64 hd, .slice v8o 2 v8c], u.oneCell' = true by simp [Value.oneCell']); have B6 : B ≤ (w8.alloc (.cells #[.int .i64 hd, .slice v8o 2 v8c] 44)).heap.size := (by have := hM8.out.hi; simp; omega); clear hq8 hf8)
              | (refine step_append_lies _ rfl (.tmp 102) (.tmp 111) 22 rfl B 44 pi pz 2 32 Try.underlying22 pi1 pi2 pi3 pi4 pi5 A7 (.slice q3 T2.length c2) T2.length _ rfl B1.out ⟨w8.heap.size, 0, none⟩ 1 1 [.int .i64 hd, .slice v8o 2 v8c] rfl rfl B7.out B3.out (by decide) B4 B5 B6 _ rfl ?_; intro g2 c3 w5 ho5 hg5 hw5 _; have hO5' := Lib.hid (Bk.grown (w := (w8.alloc (.cells #[.int .i64 hd, .slice v8o 2 v8c] 44))) (Bk.alloc hX8.out _) hg5 hqk.out); have u1 : w5.frozen? ⟨fb, 1, none⟩ = false := hO5'.out.free 1; have u9 : w5.cell? ⟨fb, 1, none⟩ = some (.slice q3 T2.length c2) := hO5'.out.cell 1; have ho5' := Lib.hid ho5; have hg5' := Lib.hid hg5; have hw5' := Lib.hid hw5; clear ho5 hg5 hw5))
          all_goals
            have hL9' := LP.grow hL2'.out FW8.out (hq8'.out B (by have := hL2'.out.rm.hi; exact this)) (grown_far hg5'.out) ho5'.out hw5'.out
            obtain ⟨W9, hW9⟩ : ∃ W9, W9 = w5.setCell ⟨fb, 1, none⟩ (.slice (some ⟨g2, 0, none⟩) (T2.length + 1) c3) := ⟨_, rfl⟩
            rw [← hW9]
            rw [← hW9] at hL9'
            have hL9 := Lib.hid hL9'
            clear hL9' hW9 u1 u9 s8 s9 z0 z1 zl lf lfn
            have n0 : W9.cell? ⟨fb, 0, none⟩ = some (.int .i64 (s2.n : Int)) := hL9.out.box.cell 0
            have n1 : W9.frozen? ⟨fb, 0, none⟩ = false := hL9.out.box.free 0
            go_wp2_with fail
            go_roundw
            case rel => exact ⟨j + 1, some ⟨g2, 0, none⟩, c3, T2 ++ [(hd, Value.slice v8o 2 v8c, [(false, xj.2), (false, (s2.n : Int))])], { (addF s2 hd [(false, xj.2), (false, (s2.n : Int))]) with n := s2.n + 1 }, (s2.n : Int), rfl, by go_num, RM8.out.1, RM8.out.2.1, RM8.out.2.2.1, RM8.out.2.2.2, LP.len (LP.count hL9.out)⟩
            case measure => simp [intOf]; omega
        · have e3 : decide ((j : Int) + 2 < (n : Int)) = false := by rw [decide_eq_false_iff_not]; omega
          have q2 : (n : Int) - 2 = (j : Int) := by omega
          have q1 : (n : Int) - 1 = (j : Int) + 1 := by omega
          have wj : IntKind.i64.wrap (j : Int) = (j : Int) := IntWalk.i64_in _ (by omega)
          have wk : IntKind.i64.wrap ((j : Int) + 1) = (j : Int) + 1 := IntWalk.i64_in _ (by omega)
          have hk0 : 0 ≤ (j : Int) + 1 := by omega
          have hkn : ((j : Int) + 1).toNat = j + 1 := by omega
          have hxj : j + 1 < xs.length := by have := hxn.out; omega
          have hj0 : j < xs.length := by omega
          have hjI : (j : Int) < (xs.length : Int) := by omega
          have hkI : (j : Int) + 1 < (xs.length : Int) := by omega
          obtain ⟨xj, hx⟩ : ∃ x, xs[j]? = some x := ⟨xs[j], List.getElem?_eq_getElem hj0⟩
          obtain ⟨xk, hxk⟩ : ∃ x, xs[j + 1]? = some x := ⟨xs[j + 1], List.getElem?_eq_getElem hxj⟩
          obtain ⟨lb, loff, lc', he, hlb, hcl⟩ := (Src.own hL2.row).at (by simp [IL]; omega)
          simp only [Value.slice.injEq] at he
          obtain ⟨rfl, hnn, rfl⟩ := he
          clear hnn
          have zl : wr.cell? ⟨lb, loff + j, none⟩ = some (.int .i64 xj.2) := hcl j _ (by simp [IL, hx])
          have zk : wr.cell? ⟨lb, loff + (j + 1), none⟩ = some (.int .i64 xk.2) := hcl (j + 1) _ (by simp [IL, hxk])
          have z1 : wr.cell? ⟨fb, 1, none⟩ = some (.slice q3 T2.length c2) := hL2.box.cell 1
          have RE := Lib.hid (chain_end hlf.out hx hxk (show j + 2 = n by omega) hxn.out hch)
          have TW : Hid (Calls Try.prog 61 #[.int .i64 hd, .int .i64 xj.2, .int .i64 xk.2] wr.drew fun e w' => ∃ u, e = .returned u ∧ ∃ v, u = .agg #[.int .i64 hd, v] ∧ (∀ B, B ≤ wr.drew.heap.size → QB w' B v [(false, xj.2), (false, xk.2)]) ∧ Far (fun _ => False) wr.drew w') := Lib.hid ((two_any hd xj.2 xk.2 wr.drew).mono fun e w' ⟨v, he, hq⟩ => ⟨_, he, v, rfl, hq⟩)
          obtain ⟨pi, pz, pi1, pi2, pi3, pi4, pi5⟩ := info3 info_prod
          have A7 : 0 < 2 := by decide
          have B4 : T2.length + 1 ≤ maxLen := by unfold maxLen; omega
          have B5 : (T2.length + 1) * 32 ≤ 140737488355328 := by omega
          have hqk := Lib.hid (show (Value.slice q3 T2.length c2).ownBlock ≠ some fb from fun e => hL2.ofBlk.1 (.inl e))
          have hll : lb < wr.heap.size := hlb
          clear hL2 hch hx hxk hcl hlb hT2 hxj hj0 hlt2 hj hsn2 hsp2
          go_wp2_with fail
          go_region_law
            (first
              | (refine step_call rfl 61 #[.int .i64 hd, .int .i64 xj.2, .int .i64 xk.2] ?_ TW.out ?_; (go_simp); rintro u8 w8 ⟨v8, rfl, hq8, hf8⟩; obtain ⟨v8o, v8c, rfl⟩ := Src.form (hq8 0 (Nat.zero_le _)).1; have hq8' := Lib.hid hq8; have FW8 := Lib.hid ((drew_far wr).then hf8); have hX8 := Lib.hid (hL2'.out.box.far' FW8.out id); have hM8 := Lib.hid (hL2'.out.rm.move FW8.out); have s8 : w8.cell? ⟨fb, 1, none⟩ = some (.slice q3 T2.length c2) := hX8.out.cell 1; have lf : fb < w8.heap.size := hX8.out.lt; have lfn : fb ≠ w8.heap.size := (by omega); have B1 := Lib.hid (hM8.out.row.alloc (.cells #[.int .i64 hd, .slice v8o 2 v8c] 44)); have B7 := Lib.hid (World.news_of_block (w := (w8.alloc (.cells #[.int .i64 hd, .slice v8o 2 v8c] 44))) (heap_alloc_new w8 _)); have B3 := Lib.hid (show ∀ u ∈ [Value.int .i64 hd, .slice v8o 2 v8c], u.oneCell' = true by simp [Value.oneCell']); have B6 : B ≤ (w8.alloc (.cells #[.int .i64 hd, .slice v8o 2 v8c] 44)).heap.size := (by have := hM8.out.hi; simp; omega); clear hq8 hf8)
              | (refine step_append_lies _ rfl (.tmp 121) (.tmp 134) 22 rfl B 44 pi pz 2 32 Try.underlying22 pi1 pi2 pi3 pi4 pi5 A7 (.slice q3 T2.length c2) T2.length _ rfl B1.out ⟨w8.heap.size, 0, none⟩ 1 1 [.int .i64 hd, .slice v8o 2 v8c] rfl rfl B7.out B3.out (by decide) B4 B5 B6 _ rfl ?_; intro g2 c3 w5 ho5 hg5 hw5 _; have hO5' := Lib.hid (Bk.grown (w := (w8.alloc (.cells #[.int .i64 hd, .slice v8o 2 v8c] 44))) (Bk.alloc hX8.out _) hg5 hqk.out); have u1 : w5.frozen? ⟨fb, 1, none⟩ = false := hO5'.out.free 1; have u9 : w5.cell? ⟨fb, 1, none⟩ = some (.slice q3 T2.length c2) := hO5'.out.cell 1; have ho5' := Lib.hid ho5; have hg5' := Lib.hid hg5; have hw5' := Lib.hid hw5; clear ho5 hg5 hw5))
          all_goals
            have hL9' := LP.grow hL2'.out FW8.out (hq8'.out B (by have := hL2'.out.rm.hi; exact this)) (grown_far hg5'.out) ho5'.out hw5'.out
            obtain ⟨W9, hW9⟩ : ∃ W9, W9 = w5.setCell ⟨fb, 1, none⟩ (.slice (some ⟨g2, 0, none⟩) (T2.length + 1) c3) := ⟨_, rfl⟩
            rw [← hW9]
            rw [← hW9] at hL9'
            have hL9 := Lib.hid hL9'
            clear hL9' hW9 u1 u9 s8 z1 zl zk lf lfn q1 q2 wj wk hk0 hkn hkI hjI e3
            have e0 : W9.cell? ⟨fb, 0, none⟩ = some (.int .i64 (s2.n : Int)) := hL9.out.box.cell 0
            have e1 : W9.cell? ⟨fb, 1, none⟩ = some (.slice (some ⟨g2, 0, none⟩) (T2.length + 1) c3) := hL9.out.box.cell 1
            have e2 : W9.cell? ⟨fb, 2, none⟩ = some (.slice (some ⟨gL, 0, none⟩) 16 cL) := hL9.out.box.cell 2
            have e3 : W9.cell? ⟨fb, 3, none⟩ = some (.int .i64 (eI s2.e)) := hL9.out.box.cell 3
            have r0 : W9.cell? ⟨kR, 0, none⟩ = some (.int .i64 0) := hL9.out.res.cell 0
            have r1 : W9.cell? ⟨kR, 1, none⟩ = some (.slice none 0 0) := hL9.out.res.cell 1
            have r2 : W9.cell? ⟨kR, 2, none⟩ = some (.slice none 0 0) := hL9.out.res.cell 2
            have r3 : W9.cell? ⟨kR, 3, none⟩ = some (.int .i64 0) := hL9.out.res.cell 3
            have f0 : W9.frozen? ⟨kR, 0, none⟩ = false := hL9.out.res.free 0
            have f1 : W9.frozen? ⟨kR, 1, none⟩ = false := hL9.out.res.free 1
            have f2 : W9.frozen? ⟨kR, 2, none⟩ = false := hL9.out.res.free 2
            have f3 : W9.frozen? ⟨kR, 3, none⟩ = false := hL9.out.res.free 3
            go_wp2_with fail
            have hE := LP.shut hL9.out
            clear e0 e1 e2 e3 r0 r1 r2 r3 f0 f1 f2 f3
            obtain ⟨W6, hW6⟩ : ∃ W6, W6 = ((((W9.setCell ⟨kR, 0, none⟩ (.int .i64 (s2.n : Int))).setCell ⟨kR, 1, none⟩ (.slice (some ⟨g2, 0, none⟩) (T2.length + 1) c3)).setCell ⟨kR, 2, none⟩ (.slice (some ⟨gL, 0, none⟩) 16 cL)).setCell ⟨kR, 3, none⟩ (.int .i64 (eI s2.e))) := ⟨_, rfl⟩
            rw [← hW6]
            replace hE : Bk W6 kR 70 #[.int .i64 (s2.n : Int), .slice (some ⟨g2, 0, none⟩) (T2.length + 1) c3, .slice (some ⟨gL, 0, none⟩) 16 cL, .int .i64 (eI s2.e)] ∧ RM W6 B gL cL (.slice (some ⟨g2, 0, none⟩) (T2.length + 1) c3) (T2 ++ [(hd, Value.slice v8o 2 v8c, [(false, xj.2), (false, xk.2)])]) (addF s2 hd [(false, xj.2), (false, xk.2)]) ∧ Far (fun k => OF (.slice qo T.length qc) gL k ∨ fb ≤ k) W W6 := by rw [hW6]; exact hE
            clear hW6
            obtain ⟨hB6, hM6, hF6⟩ := hE
            have mc0 : W6.cell? ⟨kR, 0, none⟩ = some (.int .i64 (s2.n : Int)) := hB6.cell 0
            have mc1 : W6.cell? ⟨kR, 1, none⟩ = some (.slice (some ⟨g2, 0, none⟩) (T2.length + 1) c3) := hB6.cell 1
            have mc2 : W6.cell? ⟨kR, 2, none⟩ = some (.slice (some ⟨gL, 0, none⟩) 16 cL) := hB6.cell 2
            have mc3 : W6.cell? ⟨kR, 3, none⟩ = some (.int .i64 (eI s2.e)) := hB6.cell 3
            refine bodyPost_ret (v := .agg #[.int .i64 (s2.n : Int), .slice (some ⟨g2, 0, none⟩) (T2.length + 1) c3, .slice (some ⟨gL, 0, none⟩) 16 cL, .int .i64 (eI s2.e)]) (by simp [results, Try.f40, go_sem, mc0, mc1, mc2, mc3]) rfl ?_
            rw [hres.out, hlf.out]
            show APost B gL cL _ (chainR xs s1 h) _ _ _
            rw [← RE.out]
            exact ⟨_, _, rfl, hM6, ((hF'.out.mono (G := fun k => OF (.slice qo T.length qc) gL k ∨ fb ≤ k) fun _ _ q => q.elim).trans hF6 fun _ _ q => q).mono (G := OF (.slice qo T.length qc) gL) fun i hi q => q.elim id fun e => by have := hfb'.out; omega⟩
end
end Go.Proofs.Ytjkfieilaahejaa
