/-
  What becomes of a production.
-/
import Derived.Test.YtjkfieilaahejaaChain14
import Derived.Test.YtjkfieilaahejaaWeak
import Derived.Test.YtjkfieilaahejaaSRow
namespace Go.Proofs.Ytjkfieilaahejaa
open Go.RowKit
open Go.Maps (Keyed)
set_option linter.unusedVariables false
set_option linter.unusedSimpArgs false
def lab1 (s : Fs) (x : Sy) : Fs × Sy := if x.1 then ((labF s x.2.toNat).1, (false, ((labF s x.2.toNat).2 : Int))) else (s, x)
def labsF : List Sy → Fs → Fs × List Sy
  | [], s => (s, [])
  | x :: l, s => ((labsF l (lab1 s x).1).1, (lab1 s x).2 :: (labsF l (lab1 s x).1).2)
theorem labsF_snoc (x : Sy) : ∀ (l : List Sy) (s : Fs), labsF (l ++ [x]) s = ((lab1 (labsF l s).1 x).1, (labsF l s).2 ++ [(lab1 (labsF l s).1 x).2])
  | [], s => rfl
  | y :: l, s => by
    show ((labsF (l ++ [x]) (lab1 s y).1).1, _ :: (labsF (l ++ [x]) (lab1 s y).1).2) = _
    rw [labsF_snoc x l]
    rfl
theorem labF_len (s : Fs) (k : Nat) : (labF s k).1.n ≤ s.n + 1 ∧ (labF s k).1.ps.length ≤ s.ps.length + 1 := by
  unfold labF
  split
  · exact ⟨Nat.le_succ _, Nat.le_succ _⟩
  · exact ⟨Nat.le_refl _, by simp⟩
theorem row_form {w : World} {base m : Nat} {e : TypeId} {size : Nat} {v : Value} {xs : List Value} (h : w.ownsRow base e size v m xs) (hm : 0 < m) : ∃ g cap, v = .slice (some ⟨g, 0, none⟩) m cap ∧ m ≤ cap ∧ base ≤ g ∧ g < w.heap.size := by
  rcases h.2 with ⟨_, h0⟩ | ⟨g, cap, cur, hv, hb, hg, hcap, _⟩
  · omega
  · exact ⟨g, cap, hv, hcap, hb, (Array.getElem?_eq_some_iff.1 hg).1⟩
theorem row_in {w : World} {base m g cap : Nat} {e : TypeId} {size : Nat} {xs : List Value} (h : w.ownsRow base e size (.slice (some ⟨g, 0, none⟩) m cap) m xs) : m ≤ cap ∧ base ≤ g ∧ g < w.heap.size := by
  rcases h.2 with ⟨h0, _⟩ | ⟨g', cap', cur, hv, hb, hg, hcap, _⟩
  · cases h0
  · cases hv
    exact ⟨hcap, hb, (Array.getElem?_eq_some_iff.1 hg).1⟩
theorem empF_len (s : Fs) : (empF s).1.n ≤ s.n + 1 ∧ (empF s).1.ps.length ≤ s.ps.length + 1 := by
  unfold empF
  split
  · exact ⟨Nat.le_succ _, Nat.le_succ _⟩
  · exact ⟨Nat.le_refl _, by simp⟩
def formF (s : Fs) (h : Int) (l : List Sy) : Fs :=
  if shortB l then addF s h l
  else if l.length = 1 then chainF (labsF (l ++ [(false, ((empF s).2 : Int))]) (empF s).1).2 (labsF (l ++ [(false, ((empF s).2 : Int))]) (empF s).1).1 h
  else chainF (labsF l s).2 (labsF l s).1 h
section
set_option maxHeartbeats 8000000
set_option maxRecDepth 100000
theorem form_any (B fB cB mB : Nat) (av : Nat → Prop) (s : Fs) (h : Int) (v : Value) (l : List Sy) (w : World) (hM : FM w B fB cB mB av s) (hv : Body w v l) (hs : l.length * 16 ≤ 140737488351232) (hsym : ∀ x ∈ l, 0 ≤ x.2 ∧ (x.1 = true → x.2 < 16)) (hps : s.ps.length + (l.length + 3) * 3 ≤ 1099511627776) (hn : s.n + (l.length + 3) * 3 ≤ 1099511627776) (hav : ∀ k, av k → k < w.heap.size) :
    Calls Try.prog 34 #[.pointer (some ⟨fB, 0, none⟩), .agg #[.int .i64 h, v]] w fun e w' => e = .returned (.tuple #[]) ∧ FM w' B fB cB mB av (formF s h l) ∧ Far (fun k => ¬ av k) w w' := by
  obtain ⟨vo, vc, rfl⟩ := Src.form hv
  obtain ⟨ax, hax⟩ : ∃ k, k = w.heap.size := ⟨_, rfl⟩
  obtain ⟨wa, hwa⟩ : ∃ wa, wa = w.alloc (.cells #[.int .i64 h, .slice vo l.length vc] 44) := ⟨_, rfl⟩
  have hF : Far (fun _ => False) w wa := hwa ▸ alloc_far0 _ _
  have hX : Bk wa ax 44 #[.int .i64 h, .slice vo l.length vc] := hwa ▸ Bk.new hax
  have hza : wa.heap.size = ax + 1 := by rw [hwa]; simp [hax]
  have x1 : wa.cell? ⟨ax, 1, none⟩ = some (.slice vo l.length vc) := hX.cell 1
  have CL := clone_any (.slice vo l.length vc) l wa (hv.move hF) hs
  have hl2 : l.length ≤ maxLen := by unfold maxLen; omega
  have hax' := Lib.hid hax
  have hwa' := Lib.hid hwa
  have hF' := Lib.hid hF
  have hX' := Lib.hid hX
  have hza' := Lib.hid hza
  have hM' := Lib.hid hM
  have hav' := Lib.hid hav
  have hsym' := Lib.hid hsym
  clear hax hwa hF hX hza hM hav hsym hv hs
  go_enter Try.func34, Try.ntmps34
  go_upto_region 1 with fail
  rw [← hax'.out, ← hwa'.out]
  go_wp2_with fail
  refine CL.mono ?_
  rintro e w1 ⟨v1, rfl, ho1, hf1⟩
  have hM1 := Lib.hid (hM'.out.move (hF'.out.then hf1))
  have hX1 := Lib.hid (hX'.out.far' hf1 id)
  have hF1 := Lib.hid (hF'.out.then hf1)
  have SH := short_any v1 l w1 (Src.own ho1) hl2
  obtain ⟨uo, uc, rfl⟩ := Src.form (Src.own ho1)
  have ho1' := Lib.hid ho1
  clear CL ho1 hf1 x1
  cases hsh : shortB l with
  | true =>
    rw [hsh] at SH
    have hfin := Lib.hid (show formF s h l = addF s h l by unfold formF; rw [if_pos hsh])
    have AD := add_any B fB cB mB av s h (.slice uo l.length uc) l w1 hM1.out (FB.own ho1'.out fun k hk q => by have := hav'.out k q; have := hza'.out; have := hax'.out; omega) (by omega) fun k q => Nat.lt_of_lt_of_le (hav'.out k q) hF1.out.size
    have x0 : w1.cell? ⟨ax, 0, none⟩ = some (.int .i64 h) := hX1.out.cell 0
    obtain ⟨b, hb⟩ : ∃ b : Bool, b = decide ((l.length : Int) = 1) := ⟨_, rfl⟩
    have hb1 : ((l.length : Int) == 1) = b := by rw [hb]; rfl
    have hb' := Lib.hid hb
    clear hsh hb
    go_wp2_with fail
    refine SH.mono ?_
    rintro e w2 ⟨rfl, rfl⟩
    clear SH
    go_wp2_with fail
    refine AD.mono ?_
    rintro e w9 ⟨rfl, hM9, hf9⟩
    have hM9' := Lib.hid hM9
    have hf9' := Lib.hid ((hF1.out.mono (G := fun k => ¬ av k) fun _ _ q => q.elim).trans hf9 fun _ _ q => q)
    clear AD hM9 hf9 x0
    go_wp2_with fail
    go_end0
    exact ⟨rfl, by rw [hfin.out]; exact hM9'.out, hf9'.out⟩
  | false =>
    rw [hsh] at SH
    have hl0 : 0 < l.length := by
      cases l with
      | nil => cases hsh
      | cons x l => simp
    obtain ⟨g, c, hgc, hcap, hgb, hgl1⟩ := row_form ho1'.out hl0
    obtain ⟨rfl, rfl⟩ : uo = some ⟨g, 0, none⟩ ∧ c = uc := by
      simp only [Value.slice.injEq] at hgc
      exact ⟨hgc.1, hgc.2.2.symm⟩
    clear hgc
    have nag : ¬ av g := fun q => by have := hav'.out g q; have := hza'.out; have := hax'.out; omega
    have hgx : ax ≠ g := by have := hza'.out; omega
    by_cases h1 : l.length = 1
    · have hb1 : ((l.length : Int) == 1) = true := by simp; omega
      obtain ⟨av2, hav2d⟩ : ∃ av2 : Nat → Prop, av2 = fun k => av k ∨ k = g ∨ k = ax := ⟨_, rfl⟩
      have hM2 : FM w1 B fB cB mB av2 s := hM'.out.go hF1.out (fun _ _ q => q.elim) fun k hk q => by
        rw [hav2d] at q
        exact q.elim id fun e => by have := hza'.out; have := hax'.out; omega
      have hav2 : ∀ k, av2 k → k < w1.heap.size := fun k q => by
        rw [hav2d] at q
        exact q.elim (fun q => Nat.lt_of_lt_of_le (hav'.out k q) hF1.out.size) fun e => e.elim (fun e => e ▸ hgl1) fun e => e ▸ hX1.out.lt
      have a2g : av2 g := hav2d ▸ .inr (.inl rfl)
      have a2x : av2 ax := hav2d ▸ .inr (.inr rfl)
      have a2d : ∀ k, av k → av2 k := fun k q => hav2d ▸ .inl q
      have EM := empty_any B fB cB mB av2 s w1 hM2 (by omega) (by omega) hav2
      have hel := empF_len s
      obtain ⟨m, hm⟩ : ∃ m, m = (empF s).2 := ⟨_, rfl⟩
      obtain ⟨s1, hs1⟩ : ∃ s1, s1 = (empF s).1 := ⟨_, rfl⟩
      have hres := Lib.hid (show formF s h l = chainF (labsF (l ++ [(false, (m : Int))]) s1).2 (labsF (l ++ [(false, (m : Int))]) s1).1 h by
        unfold formF
        rw [if_neg (by rw [hsh]; decide), if_pos h1, hm, hs1])
      rw [← hm, ← hs1] at EM
      rw [← hs1] at hel
      obtain ⟨si, sz, si1, si2, si3, si4, si5⟩ := info3 info_sym
      have hsym2 : Hid (∀ x ∈ l ++ [(false, (m : Int))], 0 ≤ x.2 ∧ (x.1 = true → x.2 < 16)) := Lib.hid fun x hx => (List.mem_append.1 hx).elim (hsym'.out x) fun e => by
        rw [List.mem_singleton.1 e]
        exact ⟨by dsimp only; omega, fun e => by cases e⟩
      have hav2' := Lib.hid hav2
      have hav2d' := Lib.hid hav2d
      have hgl1' := Lib.hid hgl1
      have a2d' := Lib.hid a2d
      clear hsh hm hs1 hM2 hav2 hav2d hgl1 a2d h1
      go_wp2_with fail
      refine SH.mono ?_
      rintro e w1b ⟨rfl, rfl⟩
      clear SH
      go_wp2_with fail
      refine EM.mono ?_
      rintro e w2 ⟨rfl, hM2, hf2⟩
      have hR2 := row_far ho1'.out hf2 fun k e q => by
        obtain rfl : g = k := Option.some.inj e
        exact q a2g
      have hX2 := Lib.hid (hX1.out.far' hf2 fun q => q a2x)
      have hg2 : g < w2.heap.size := Nat.lt_of_lt_of_le hgl1'.out hf2.size
      have B1 := Lib.hid (hR2.alloc (.cells #[.bool false, .int .i64 (m : Int)] 50))
      have B7 := Lib.hid (World.news_of_block (w := w2.alloc (.cells #[.bool false, .int .i64 (m : Int)] 50)) (heap_alloc_new w2 _))
      have B3 := Lib.hid (show ∀ u ∈ [Value.bool false, .int .i64 (m : Int)], u.oneCell' = true by simp [Value.oneCell'])
      have B4 : l.length + 1 ≤ maxLen := by unfold maxLen; omega
      have B5 : (l.length + 1) * 16 ≤ 140737488355328 := by omega
      have B6 : wa.heap.size ≤ (w2.alloc (.cells #[.bool false, .int .i64 (m : Int)] 50)).heap.size := by simp; omega
      have hM2' := Lib.hid hM2
      have hf2' := Lib.hid hf2
      have A7 : 0 < 2 := by decide
      clear EM hM2 hf2 hR2
      go_upto_region 6 with (at_builtin; refine wpList_append_lies _ rfl _ _ 42 rfl wa.heap.size 50 si sz 2 16 Try.underlying42 si1 si2 si3 si4 si5 A7 (.slice (some ⟨g, 0, none⟩) l.length c) l.length _ rfl B1.out ⟨w2.heap.size, 0, none⟩ 1 1 [.bool false, .int .i64 (m : Int)] rfl rfl B7.out B3.out (by decide) B4 B5 B6 _ rfl ?_; intro g2 c2 w3 ho3 hg3 hw3 _; have ho3' := Lib.hid ho3; have hg3' := Lib.hid hg3; have hw3' := Lib.hid hw3; clear ho3 hg3 hw3)
      obtain ⟨n, hnn⟩ : ∃ n, n = l.length + 1 := ⟨_, rfl⟩
      have hf3 : Far (fun k => k = g) w2 w3 := ((alloc_far0 w2 (.cells #[.bool false, .int .i64 (m : Int)] 50)).mono (G := fun k => k = g) fun _ _ q => q.elim).trans ((Far.refl (fun k => k = g) _).grown hg3'.out fun k _ e => (Option.some.inj e).symm) fun _ _ q => q
      have hg2g : g2 = g ∨ g2 = w2.heap.size + 1 := hw3'.out.elim (fun e => .inl (Option.some.inj e).symm) fun e => .inr (by rw [e]; simp)
      have hR3 : SRow w3 wa.heap.size (.slice (some ⟨g2, 0, none⟩) n c2) (l ++ [(false, (m : Int))]) := by
        have e1 : (l ++ [((false, (m : Int)) : Sy)]).length = l.length + 1 := by simp
        have e2 : scells (l ++ [((false, (m : Int)) : Sy)]) = scells l ++ [.bool false, .int .i64 (m : Int)] := by simp [scells, scell]
        unfold SRow
        rw [e1, e2, hnn]
        exact ho3'.out
      obtain ⟨hcap3, hgb3, hgl3⟩ := row_in ho3'.out
      rw [← hnn] at hcap3 ⊢
      obtain ⟨av3, hav3d⟩ : ∃ av3 : Nat → Prop, av3 = fun k => av k ∨ k = g2 ∨ k = ax := ⟨_, rfl⟩
      have hMt : Hid (FM w3 B fB cB mB av3 s1) := Lib.hid (hM2'.out.go hf3 (fun k _ e => e ▸ a2g) fun k hk q => by
        rw [hav3d] at q
        rw [hav2d'.out]
        rcases q with q | q | q
        · exact .inl q
        · exact .inr (.inl (hg2g.elim (fun e => q.trans e) fun e => by omega))
        · exact .inr (.inr q))
      have hRt : Hid (SRow w3 wa.heap.size (.slice (some ⟨g2, 0, none⟩) n c2) (l ++ [(false, (m : Int))])) := Lib.hid hR3
      have hXt := Lib.hid (hX2.out.far' hf3 hgx)
      have ha3 : Hid (∀ k, av3 k → k < w3.heap.size) := Lib.hid fun k q => by
        rw [hav3d] at q
        rcases q with q | q | q
        · exact Nat.lt_of_lt_of_le (hav2'.out k (a2d'.out k q)) (Nat.le_trans hf2'.out.size hf3.size)
        · exact q ▸ hgl3
        · exact q ▸ hXt.out.lt
      have a3g : av3 g2 := hav3d ▸ .inr (.inl rfl)
      have a3x : av3 ax := hav3d ▸ .inr (.inr rfl)
      have a3d : ∀ k, av k → av3 k := fun k q => hav3d ▸ .inl q
      have hFt := Lib.hid (((hF1.out.mono (G := fun k => ¬ av k) fun _ _ q => q.elim).trans (hf2'.out.mono (G := fun k => ¬ av k) fun k _ q p => q (a2d'.out k p)) fun _ _ q => q).trans (hf3.mono (G := fun k => ¬ av k) fun k _ e => e ▸ nag) fun _ _ q => q)
      have nag2 : ¬ av g2 := fun q => hg2g.elim (fun e => nag (e ▸ q)) fun e => by have := hav2'.out _ (a2d'.out _ q); have := hf2'.out.size; omega
      have hgx2 : ax ≠ g2 := fun e => hg2g.elim (fun e2 => hgx (e.trans e2)) fun e2 => by have := hX2.out.lt; omega
      have hn2 : Hid ((l ++ [((false, (m : Int)) : Sy)]).length = n) := Lib.hid (by rw [hnn]; simp)
      have hq1 : s1.ps.length + n * 2 ≤ 1099511627776 := by omega
      have hq2 : s1.n + n * 2 ≤ 1099511627776 := by omega
      have hq3 : 2 ≤ n := by omega
      have hnn' := Lib.hid hnn
      have hf3' := Lib.hid hf3
      have hg2g' := Lib.hid hg2g
      have hR3' := Lib.hid hR3
      have hav3d' := Lib.hid hav3d
      have a3d' := Lib.hid a3d
      have nag' := Lib.hid nag2
      clear hnn hf3 hg2g hR3 hav3d a3d nag nag2 hcap hgb hgx hg2 a2g a2x hel hb1
      go_upto_region 6 with fail
      go_wp2_with fail
      go_loopw [29] (fun iv wr => ∃ (i : Nat) (s' : Fs) (L : List Sy), iv = .int .i64 i ∧ i ≤ n ∧ Hid (labsF ((l ++ [(false, (m : Int))]).take i) s1 = (s', L)) ∧ Hid (L.length = i) ∧ Hid (FM wr B fB cB mB av3 s') ∧ Hid (SRow wr wa.heap.size (.slice (some ⟨g2, 0, none⟩) n c2) (L ++ (l ++ [(false, (m : Int))]).drop i)) ∧ Hid (Bk wr ax 44 #[.int .i64 h, .slice vo l.length vc]) ∧ Far (fun k => ¬ av k) w3 wr ∧ s'.n ≤ s1.n + i ∧ s'.ps.length ≤ s1.ps.length + i) (fun iv _ => n - (intOf iv).toNat)
      case atStart => exact ⟨0, s1, [], rfl, Nat.zero_le _, Lib.hid rfl, Lib.hid rfl, hMt, hRt, hXt, Far.refl _ _, Nat.le_refl _, Nat.le_refl _⟩
      case round =>
        obtain ⟨i, s', L, rfl, hi, hlab, hLl, hMr, hRr, hXr, hfw, hbn, hbp⟩ := hrel
        by_cases hlt : i < n
        · have e1 : decide ((i : Int) < (n : Int)) = true := by rw [decide_eq_true_eq]; omega
          have hii : (i : Int) < (n : Int) := by omega
          obtain ⟨x, hx⟩ : ∃ x, (l ++ [(false, (m : Int))])[i]? = some x := ⟨(l ++ [(false, (m : Int))])[i]'(by have := hn2.out; omega), List.getElem?_eq_getElem _⟩
          have hsx := hsym2.out x (List.mem_of_getElem? hx)
          have hdr : (l ++ [(false, (m : Int))]).drop i = x :: (l ++ [(false, (m : Int))]).drop (i + 1) := by
            obtain ⟨h1, h2⟩ := List.getElem?_eq_some_iff.1 hx
            rw [List.drop_eq_getElem_cons h1, h2]
          have hxi : (L ++ (l ++ [(false, (m : Int))]).drop i)[i]? = some x := by rw [hdr, List.getElem?_append_right (by have := hLl.out; omega)]; simp [hLl.out]
          obtain ⟨c0, c1, _, _⟩ := hRr.out.at hxi
          have hgl : g2 < wr.heap.size := by have := hRr.out.lt g2 rfl; exact this.2
          have htk : (l ++ [(false, (m : Int))]).take (i + 1) = (l ++ [(false, (m : Int))]).take i ++ [x] := by
            obtain ⟨h1, h2⟩ := List.getElem?_eq_some_iff.1 hx
            rw [List.take_succ_eq_append_getElem h1, h2]
          have hl3 := Lib.hid (show labsF ((l ++ [(false, (m : Int))]).take (i + 1)) s1 = ((lab1 s' x).1, L ++ [(lab1 s' x).2]) by rw [htk, labsF_snoc, hlab.out])
          have hset : ∀ y, (L ++ (l ++ [(false, (m : Int))]).drop i).set i y = (L ++ [y]) ++ (l ++ [(false, (m : Int))]).drop (i + 1) := fun y => by
            rw [hdr, List.set_append_right _ _ (by have := hLl.out; omega)]
            simp [hLl.out]
          have hdr2 : x :: (l ++ [(false, (m : Int))]).drop (i + 1) = (l ++ [(false, (m : Int))]).drop i := hdr.symm
          obtain ⟨xb, xn⟩ := x
          dsimp only at c0 c1 hsx
          obtain ⟨k, rfl⟩ : ∃ k : Nat, xn = (k : Int) := ⟨xn.toNat, by omega⟩
          obtain ⟨sx, hsxk⟩ : ∃ sx, sx = wr.heap.size := ⟨_, rfl⟩
          obtain ⟨wb, hwb⟩ : ∃ wb, wb = wr.alloc (.cells #[.bool xb, .int .i64 (k : Int)] 50) := ⟨_, rfl⟩
          have hfb : Far (fun _ => False) wr wb := hwb ▸ alloc_far0 _ _
          have hSb : Bk wb sx 50 #[.bool xb, .int .i64 (k : Int)] := hwb ▸ Bk.new hsxk
          have y0 : wb.cell? ⟨sx, 0, none⟩ = some (.bool xb) := hSb.cell 0
          have y1 : wb.cell? ⟨sx, 1, none⟩ = some (.int .i64 (k : Int)) := hSb.cell 1
          have hMb := Lib.hid (hMr.out.move hfb)
          have hRb : Hid (SRow wb wa.heap.size (.slice (some ⟨g2, 0, none⟩) n c2) (L ++ (l ++ [(false, (m : Int))]).drop i)) := Lib.hid (row_far hRr.out hfb fun _ _ q => q)
          have hXb := Lib.hid (hXr.out.far' hfb id)
          have hfwb := Lib.hid (hfw.trans (hfb.mono (G := fun k => ¬ av k) fun _ _ q => q.elim) fun _ _ q => q)
          have hsxk' := Lib.hid hsxk
          have hwb' := Lib.hid hwb
          have hset' := Lib.hid hset
          have hdr2' := Lib.hid hdr2
          have hLl2 : Hid (∀ y : Sy, (L ++ [y]).length = i + 1) := Lib.hid fun y => by rw [List.length_append, hLl.out]; rfl
          clear hx hdr hxi htk hset hdr2 hMr hRr hXr hfw hfb hSb hsxk hwb hlab
          go_upto_region 9 with fail
          rw [← hsxk'.out, ← hwb'.out]
          clear c0 c1
          cases xb with
          | false =>
            have e3 : lab1 s' (false, (k : Int)) = (s', (false, (k : Int))) := rfl
            have hl4 : Hid (labsF ((l ++ [(false, (m : Int))]).take (i + 1)) s1 = (s', L ++ [(false, (k : Int))])) := Lib.hid (by rw [hl3.out, e3])
            have hR4 : Hid (SRow wb wa.heap.size (.slice (some ⟨g2, 0, none⟩) n c2) ((L ++ [(false, (k : Int))]) ++ (l ++ [(false, (m : Int))]).drop (i + 1))) := Lib.hid (by rw [List.append_assoc, List.singleton_append, hdr2'.out]; exact hRb.out)
            clear e3
            go_wp2_with fail
            go_roundw
            case rel => exact ⟨i + 1, s', L ++ [(false, (k : Int))], by go_num, by omega, hl4, Lib.hid (hLl2.out _), hMb, hR4, hXb, hfwb.out, by omega, by omega⟩
            case measure => simp [intOf]; omega
          | true =>
            have hk16 : k < 16 := by have := hsx.2 rfl; omega
            have hb1 : s'.ps.length ≤ 1099511627776 := by omega
            have hb2 : s'.n ≤ 1099511627776 := by omega
            have LB := label_any B fB cB mB av3 s' k wb hMb.out hk16 hb1 hb2 fun k q => Nat.lt_of_lt_of_le (ha3.out k q) (by have := hfwb.out.size; omega)
            have e3 : lab1 s' (true, (k : Int)) = ((labF s' k).1, (false, ((labF s' k).2 : Int))) := by unfold lab1; simp
            have hlb := labF_len s' k
            have hl4 : Hid (labsF ((l ++ [(false, (m : Int))]).take (i + 1)) s1 = ((labF s' k).1, L ++ [(false, ((labF s' k).2 : Int))])) := Lib.hid (by rw [hl3.out, e3])
            obtain ⟨mk, hmk⟩ : ∃ mk, mk = (labF s' k).2 := ⟨_, rfl⟩
            obtain ⟨s9, hs9⟩ : ∃ s9, s9 = (labF s' k).1 := ⟨_, rfl⟩
            rw [← hmk, ← hs9] at LB hl4
            rw [← hs9] at hlb
            clear e3 hmk hs9 hk16
            go_wp2_with fail
            refine LB.mono ?_
            rintro e w9 ⟨rfl, hM9, hf9⟩
            have hR9 : SRow w9 wa.heap.size (.slice (some ⟨g2, 0, none⟩) n c2) (L ++ (l ++ [(false, (m : Int))]).drop i) := row_far hRb.out hf9 fun k e q => by
              obtain rfl : g2 = k := Option.some.inj e
              exact q a3g
            have hX9 := hXb.out.far' hf9 fun q => q a3x
            obtain ⟨c0, c1, z0, z1⟩ := hR9.at (m := i) (s := (true, (k : Int))) (by rw [← hdr2'.out, List.getElem?_append_right (by have := hLl.out; omega), hLl.out, Nat.sub_self]; rfl)
            have hg9 : g2 < w9.heap.size := (hR9.lt g2 rfl).2
            have hR9' := Lib.hid hR9
            have hX9' := Lib.hid hX9
            have hM9' := Lib.hid hM9
            have hf9' := Lib.hid (hfwb.out.trans (hf9.mono (G := fun k => ¬ av k) fun k _ q p => q (a3d'.out k p)) fun _ _ q => q)
            have hlen9 := Lib.hid (show (L ++ (l ++ [(false, (m : Int))]).drop i).length = n by rw [List.length_append, List.length_drop, hLl.out, hn2.out]; omega)
            clear LB hR9 hX9 hM9 hf9
            go_wp2_with fail
            have hS5 := (Far.refl (fun k => k = g2) w9).set ⟨g2, i * 2, none⟩ (.bool false) (fun _ => rfl)
            have hS6 := hS5.set ⟨g2, i * 2 + 1, none⟩ (.int .i64 (mk : Int)) (fun _ => rfl)
            have hR6 : Hid (SRow ((w9.setCell ⟨g2, i * 2, none⟩ (.bool false)).setCell ⟨g2, i * 2 + 1, none⟩ (.int .i64 (mk : Int))) wa.heap.size (.slice (some ⟨g2, 0, none⟩) n c2) ((L ++ [(false, (mk : Int))]) ++ (l ++ [(false, (m : Int))]).drop (i + 1))) := Lib.hid (by
              have := SRow.set hR9'.out hlen9.out hlt (false, (mk : Int))
              rw [hset'.out] at this
              exact this)
            have hM6 := Lib.hid (hM9'.out.go (av' := av3) hS6 (fun k _ e => e ▸ a3g) fun k _ q => q)
            have hX6 := Lib.hid (hX9'.out.far' hS6 hgx2)
            have hF6 := Lib.hid (hf9'.out.trans (hS6.mono (G := fun k => ¬ av k) fun k _ e => e ▸ nag'.out) fun _ _ q => q)
            clear c0 c1 z0 z1 hS5 hS6
            go_roundw
            case rel => exact ⟨i + 1, s9, L ++ [(false, (mk : Int))], by go_num, by omega, hl4, Lib.hid (hLl2.out _), hM6, hR6, hX6, hF6.out, by omega, by omega⟩
            case measure => simp [intOf]; omega
        · have e1 : decide ((i : Int) < (n : Int)) = false := by rw [decide_eq_false_iff_not]; omega
          have hin : i = n := by omega
          have hfin := Lib.hid (show formF s h l = chainF L s' h by
            have := hlab.out
            rw [List.take_of_length_le (by have := hn2.out; omega)] at this
            rw [hres.out, this])
          have hR : SRow wr wa.heap.size (.slice (some ⟨g2, 0, none⟩) n c2) L := by
            have := hRr.out
            rwa [List.drop_eq_nil_of_le (by have := hn2.out; omega), List.append_nil] at this
          have hCB : CB wr av3 g2 0 L := ⟨(hR.lt g2 rfl).2, a3g, fun j u hu => by
            have := World.ownsRow.cells hR (g := g2) rfl j u hu
            rw [Nat.zero_add]
            have e : (⟨g2, 0, none⟩ : Addr).add j = ⟨g2, j, none⟩ := by simp [Addr.add]; try omega
            rwa [e] at this⟩
          have hLi := hLl.out
          have CH := chain_any B fB cB mB av3 s' h g2 0 c2 L wr hMr.out hCB (by omega) (by omega) (by omega) (by omega) fun k q => Nat.lt_of_lt_of_le (ha3.out k q) hfw.size
          rw [hLi, hin] at CH
          have x0 : wr.cell? ⟨ax, 0, none⟩ = some (.int .i64 h) := hXr.out.cell 0
          have hfw' := Lib.hid (hFt.out.trans hfw fun _ _ q => q)
          clear hlab hR hCB hLi hfw hin
          go_wp2_with fail
          refine CH.mono ?_
          rintro e w9 ⟨rfl, hM9, hf9⟩
          have hM9' := Lib.hid (hM9.go (F := fun _ => False) (av' := av) (Far.refl _ _) (fun _ _ q => q.elim) fun k _ q => a3d'.out k q)
          have hf9' := Lib.hid (hfw'.out.trans (hf9.mono (G := fun k => ¬ av k) fun k _ q p => q (a3d'.out k p)) fun _ _ q => q)
          clear CH hM9 hf9 x0
          go_wp2_with fail
          go_end0
          exact ⟨rfl, by rw [hfin.out]; exact hM9'.out, hf9'.out⟩
    · have hb1 : ((l.length : Int) == 1) = false := by simp; omega
      have h2 : 2 ≤ l.length := by omega
      have hres := Lib.hid (show formF s h l = chainF (labsF l s).2 (labsF l s).1 h by
        unfold formF
        rw [if_neg (by rw [hsh]; decide), if_neg h1])
      obtain ⟨av3, hav3d⟩ : ∃ av3 : Nat → Prop, av3 = fun k => av k ∨ k = g ∨ k = ax := ⟨_, rfl⟩
      have hMt : Hid (FM w1 B fB cB mB av3 s) := Lib.hid (hM'.out.go hF1.out (fun _ _ q => q.elim) fun k hk q => by
        rw [hav3d] at q
        exact q.elim id fun e => by have := hza'.out; have := hax'.out; omega)
      have hRt : Hid (SRow w1 wa.heap.size (.slice (some ⟨g, 0, none⟩) l.length c) l) := ho1'
      have ha3 : Hid (∀ k, av3 k → k < w1.heap.size) := Lib.hid fun k q => by
        rw [hav3d] at q
        exact q.elim (fun q => Nat.lt_of_lt_of_le (hav'.out k q) hF1.out.size) fun e => e.elim (fun e => e ▸ hgl1) fun e => e ▸ hX1.out.lt
      have a3g : av3 g := hav3d ▸ .inr (.inl rfl)
      have a3x : av3 ax := hav3d ▸ .inr (.inr rfl)
      have a3d : ∀ k, av k → av3 k := fun k q => hav3d ▸ .inl q
      have hFt := Lib.hid (hF1.out.mono (G := fun k => ¬ av k) fun _ _ q => q.elim)
      have hav3d' := Lib.hid hav3d
      have a3d' := Lib.hid a3d
      have nag' := Lib.hid nag
      have hXt : Hid (Bk w1 ax 44 #[.int .i64 h, .slice vo l.length vc]) := hX1
      have hsym2 := hsym'
      have hq1 : s.ps.length + l.length * 2 ≤ 1099511627776 := by omega
      have hq2 : s.n + l.length * 2 ≤ 1099511627776 := by omega
      clear hav3d a3d nag hsh h1 hgb hgl1 hl0 ho1' hX1 hps hn
      obtain ⟨n, hnn⟩ : ∃ n, n = l.length := ⟨_, rfl⟩
      have hn2 := Lib.hid hnn.symm
      rw [← hnn] at SH hRt hXt hb1 h2 hcap hq1 hq2 hl2 ⊢
      clear hnn
      go_wp2_with fail
      refine SH.mono ?_
      rintro e wt ⟨rfl, rfl⟩
      clear SH
      go_upto_region 6 with fail
      go_wp2_with fail
      go_loopw [29] (fun iv wr => ∃ (i : Nat) (s' : Fs) (L : List Sy), iv = .int .i64 i ∧ i ≤ n ∧ Hid (labsF (l.take i) s = (s', L)) ∧ Hid (L.length = i) ∧ Hid (FM wr B fB cB mB av3 s') ∧ Hid (SRow wr wa.heap.size (.slice (some ⟨g, 0, none⟩) n c) (L ++ l.drop i)) ∧ Hid (Bk wr ax 44 #[.int .i64 h, .slice vo n vc]) ∧ Far (fun k => ¬ av k) w1 wr ∧ s'.n ≤ s.n + i ∧ s'.ps.length ≤ s.ps.length + i) (fun iv _ => n - (intOf iv).toNat)
      case atStart => exact ⟨0, s, [], rfl, Nat.zero_le _, Lib.hid rfl, Lib.hid rfl, hMt, hRt, hXt, Far.refl _ _, Nat.le_refl _, Nat.le_refl _⟩
      case round =>
        obtain ⟨i, s', L, rfl, hi, hlab, hLl, hMr, hRr, hXr, hfw, hbn, hbp⟩ := hrel
        by_cases hlt : i < n
        · have e1 : decide ((i : Int) < (n : Int)) = true := by rw [decide_eq_true_eq]; omega
          have hii : (i : Int) < (n : Int) := by omega
          obtain ⟨x, hx⟩ : ∃ x, l[i]? = some x := ⟨l[i]'(by have := hn2.out; omega), List.getElem?_eq_getElem _⟩
          have hsx := hsym2.out x (List.mem_of_getElem? hx)
          have hdr : l.drop i = x :: l.drop (i + 1) := by
            obtain ⟨h1, h2⟩ := List.getElem?_eq_some_iff.1 hx
            rw [List.drop_eq_getElem_cons h1, h2]
          have hxi : (L ++ l.drop i)[i]? = some x := by rw [hdr, List.getElem?_append_right (by have := hLl.out; omega)]; simp [hLl.out]
          obtain ⟨c0, c1, _, _⟩ := hRr.out.at hxi
          have hgl : g < wr.heap.size := by have := hRr.out.lt g rfl; exact this.2
          have htk : l.take (i + 1) = l.take i ++ [x] := by
            obtain ⟨h1, h2⟩ := List.getElem?_eq_some_iff.1 hx
            rw [List.take_succ_eq_append_getElem h1, h2]
          have hl3 := Lib.hid (show labsF (l.take (i + 1)) s = ((lab1 s' x).1, L ++ [(lab1 s' x).2]) by rw [htk, labsF_snoc, hlab.out])
          have hset : ∀ y, (L ++ l.drop i).set i y = (L ++ [y]) ++ l.drop (i + 1) := fun y => by
            rw [hdr, List.set_append_right _ _ (by have := hLl.out; omega)]
            simp [hLl.out]
          have hdr2 : x :: l.drop (i + 1) = l.drop i := hdr.symm
          obtain ⟨xb, xn⟩ := x
          dsimp only at c0 c1 hsx
          obtain ⟨k, rfl⟩ : ∃ k : Nat, xn = (k : Int) := ⟨xn.toNat, by omega⟩
          obtain ⟨sx, hsxk⟩ : ∃ sx, sx = wr.heap.size := ⟨_, rfl⟩
          obtain ⟨wb, hwb⟩ : ∃ wb, wb = wr.alloc (.cells #[.bool xb, .int .i64 (k : Int)] 50) := ⟨_, rfl⟩
          have hfb : Far (fun _ => False) wr wb := hwb ▸ alloc_far0 _ _
          have hSb : Bk wb sx 50 #[.bool xb, .int .i64 (k : Int)] := hwb ▸ Bk.new hsxk
          have y0 : wb.cell? ⟨sx, 0, none⟩ = some (.bool xb) := hSb.cell 0
          have y1 : wb.cell? ⟨sx, 1, none⟩ = some (.int .i64 (k : Int)) := hSb.cell 1
          have hMb := Lib.hid (hMr.out.move hfb)
          have hRb : Hid (SRow wb wa.heap.size (.slice (some ⟨g, 0, none⟩) n c) (L ++ l.drop i)) := Lib.hid (row_far hRr.out hfb fun _ _ q => q)
          have hXb := Lib.hid (hXr.out.far' hfb id)
          have hfwb := Lib.hid (hfw.trans (hfb.mono (G := fun k => ¬ av k) fun _ _ q => q.elim) fun _ _ q => q)
          have hsxk' := Lib.hid hsxk
          have hwb' := Lib.hid hwb
          have hset' := Lib.hid hset
          have hdr2' := Lib.hid hdr2
          have hLl2 : Hid (∀ y : Sy, (L ++ [y]).length = i + 1) := Lib.hid fun y => by rw [List.length_append, hLl.out]; rfl
          clear hx hdr hxi htk hset hdr2 hMr hRr hXr hfw hfb hSb hsxk hwb hlab
          go_upto_region 9 with fail
          rw [← hsxk'.out, ← hwb'.out]
          clear c0 c1
          cases xb with
          | false =>
            have e3 : lab1 s' (false, (k : Int)) = (s', (false, (k : Int))) := rfl
            have hl4 : Hid (labsF (l.take (i + 1)) s = (s', L ++ [(false, (k : Int))])) := Lib.hid (by rw [hl3.out, e3])
            have hR4 : Hid (SRow wb wa.heap.size (.slice (some ⟨g, 0, none⟩) n c) ((L ++ [(false, (k : Int))]) ++ l.drop (i + 1))) := Lib.hid (by rw [List.append_assoc, List.singleton_append, hdr2'.out]; exact hRb.out)
            clear e3
            go_wp2_with fail
            go_roundw
            case rel => exact ⟨i + 1, s', L ++ [(false, (k : Int))], by go_num, by omega, hl4, Lib.hid (hLl2.out _), hMb, hR4, hXb, hfwb.out, by omega, by omega⟩
            case measure => simp [intOf]; omega
          | true =>
            have hk16 : k < 16 := by have := hsx.2 rfl; omega
            have hb1 : s'.ps.length ≤ 1099511627776 := by omega
            have hb2 : s'.n ≤ 1099511627776 := by omega
            have LB := label_any B fB cB mB av3 s' k wb hMb.out hk16 hb1 hb2 fun k q => Nat.lt_of_lt_of_le (ha3.out k q) (by have := hfwb.out.size; omega)
            have e3 : lab1 s' (true, (k : Int)) = ((labF s' k).1, (false, ((labF s' k).2 : Int))) := by unfold lab1; simp
            have hlb := labF_len s' k
            have hl4 : Hid (labsF (l.take (i + 1)) s = ((labF s' k).1, L ++ [(false, ((labF s' k).2 : Int))])) := Lib.hid (by rw [hl3.out, e3])
            obtain ⟨mk, hmk⟩ : ∃ mk, mk = (labF s' k).2 := ⟨_, rfl⟩
            obtain ⟨s9, hs9⟩ : ∃ s9, s9 = (labF s' k).1 := ⟨_, rfl⟩
            rw [← hmk, ← hs9] at LB hl4
            rw [← hs9] at hlb
            clear e3 hmk hs9 hk16
            go_wp2_with fail
            refine LB.mono ?_
            rintro e w9 ⟨rfl, hM9, hf9⟩
            have hR9 : SRow w9 wa.heap.size (.slice (some ⟨g, 0, none⟩) n c) (L ++ l.drop i) := row_far hRb.out hf9 fun k e q => by
              obtain rfl : g = k := Option.some.inj e
              exact q a3g
            have hX9 := hXb.out.far' hf9 fun q => q a3x
            obtain ⟨c0, c1, z0, z1⟩ := hR9.at (m := i) (s := (true, (k : Int))) (by rw [← hdr2'.out, List.getElem?_append_right (by have := hLl.out; omega), hLl.out, Nat.sub_self]; rfl)
            have hg9 : g < w9.heap.size := (hR9.lt g rfl).2
            have hR9' := Lib.hid hR9
            have hX9' := Lib.hid hX9
            have hM9' := Lib.hid hM9
            have hf9' := Lib.hid (hfwb.out.trans (hf9.mono (G := fun k => ¬ av k) fun k _ q p => q (a3d'.out k p)) fun _ _ q => q)
            have hlen9 := Lib.hid (show (L ++ l.drop i).length = n by rw [List.length_append, List.length_drop, hLl.out, hn2.out]; omega)
            clear LB hR9 hX9 hM9 hf9
            go_wp2_with fail
            have hS5 := (Far.refl (fun k => k = g) w9).set ⟨g, i * 2, none⟩ (.bool false) (fun _ => rfl)
            have hS6 := hS5.set ⟨g, i * 2 + 1, none⟩ (.int .i64 (mk : Int)) (fun _ => rfl)
            have hR6 : Hid (SRow ((w9.setCell ⟨g, i * 2, none⟩ (.bool false)).setCell ⟨g, i * 2 + 1, none⟩ (.int .i64 (mk : Int))) wa.heap.size (.slice (some ⟨g, 0, none⟩) n c) ((L ++ [(false, (mk : Int))]) ++ l.drop (i + 1))) := Lib.hid (by
              have := SRow.set hR9'.out hlen9.out hlt (false, (mk : Int))
              rw [hset'.out] at this
              exact this)
            have hM6 := Lib.hid (hM9'.out.go (av' := av3) hS6 (fun k _ e => e ▸ a3g) fun k _ q => q)
            have hX6 := Lib.hid (hX9'.out.far' hS6 hgx)
            have hF6 := Lib.hid (hf9'.out.trans (hS6.mono (G := fun k => ¬ av k) fun k _ e => e ▸ nag'.out) fun _ _ q => q)
            clear c0 c1 z0 z1 hS5 hS6
            go_roundw
            case rel => exact ⟨i + 1, s9, L ++ [(false, (mk : Int))], by go_num, by omega, hl4, Lib.hid (hLl2.out _), hM6, hR6, hX6, hF6.out, by omega, by omega⟩
            case measure => simp [intOf]; omega
        · have e1 : decide ((i : Int) < (n : Int)) = false := by rw [decide_eq_false_iff_not]; omega
          have hin : i = n := by omega
          have hfin := Lib.hid (show formF s h l = chainF L s' h by
            have := hlab.out
            rw [List.take_of_length_le (by have := hn2.out; omega)] at this
            rw [hres.out, this])
          have hR : SRow wr wa.heap.size (.slice (some ⟨g, 0, none⟩) n c) L := by
            have := hRr.out
            rwa [List.drop_eq_nil_of_le (by have := hn2.out; omega), List.append_nil] at this
          have hCB : CB wr av3 g 0 L := ⟨(hR.lt g rfl).2, a3g, fun j u hu => by
            have := World.ownsRow.cells hR (g := g) rfl j u hu
            rw [Nat.zero_add]
            have e : (⟨g, 0, none⟩ : Addr).add j = ⟨g, j, none⟩ := by simp [Addr.add]; try omega
            rwa [e] at this⟩
          have hLi := hLl.out
          have CH := chain_any B fB cB mB av3 s' h g 0 c L wr hMr.out hCB (by omega) (by omega) (by omega) (by omega) fun k q => Nat.lt_of_lt_of_le (ha3.out k q) hfw.size
          rw [hLi, hin] at CH
          have x0 : wr.cell? ⟨ax, 0, none⟩ = some (.int .i64 h) := hXr.out.cell 0
          have hfw' := Lib.hid (hFt.out.trans hfw fun _ _ q => q)
          clear hlab hR hCB hLi hfw hin
          go_wp2_with fail
          refine CH.mono ?_
          rintro e w9 ⟨rfl, hM9, hf9⟩
          have hM9' := Lib.hid (hM9.go (F := fun _ => False) (av' := av) (Far.refl _ _) (fun _ _ q => q.elim) fun k _ q => a3d'.out k q)
          have hf9' := Lib.hid (hfw'.out.trans (hf9.mono (G := fun k => ¬ av k) fun k _ q p => q (a3d'.out k p)) fun _ _ q => q)
          clear CH hM9 hf9 x0
          go_wp2_with fail
          go_end0
          exact ⟨rfl, by rw [hfin.out]; exact hM9'.out, hf9'.out⟩
end
end Go.Proofs.Ytjkfieilaahejaa
