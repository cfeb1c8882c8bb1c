/-
  lines: the columns of all rows of a matrix, each as a line.
-/
import Derived.Test.YtkobbcmndneajaaDoorQPLine
namespace Go.Proofs.YtkobbcmndneajaaDoor
open Go.RowKit Go.Shelf
set_option linter.unusedVariables false
set_option linter.unusedSimpArgs false
def lnRows (M : Nat → Nat → Bool) (n : Nat) : List (List Value) := (List.range n).map fun i => (Rl (lnW (M i))).toList
theorem lnRows_even (M : Nat → Nat → Bool) (n : Nat) : Even 16 (lnRows M n) := fun x hx => by
  simp only [lnRows, List.mem_map] at hx
  obtain ⟨i, _, rfl⟩ := hx
  rw [Array.length_toList, Rl_size]
theorem lnRows_get (M : Nat → Nat → Bool) {n i : Nat} (h : i < n) : (lnRows M n)[i]? = some (Rl (lnW (M i))).toList := by simp [lnRows, h]
theorem lnRows_len (M : Nat → Nat → Bool) (n : Nat) : (lnRows M n).length = n := by simp [lnRows]
theorem lnW_or (S : Nat → Bool) (j : Nat) (hj : j < 1024) : Rl (upd (lnW S) (j / 64) (lnW S (j / 64) ||| 2 ^ (j % 64))) = Rl (lnW fun c => S c || decide (c = j)) := Rl_congr fun k hk => by
  refine Nat.eq_of_testBit_eq fun c => ?_
  by_cases hc : c < 64
  · have e2 : (lnW (fun c => S c || decide (c = j)) k).testBit c = (S (64 * k + c) || decide (64 * k + c = j)) := blk_bit _ _ _ hc
    rw [e2]
    unfold upd
    by_cases e : k = j / 64
    · subst e
      rw [if_pos rfl, Nat.testBit_or, Nat.testBit_two_pow, show (lnW S (j / 64)).testBit c = S (64 * (j / 64) + c) from blk_bit _ _ _ hc]
      congr 1
      rw [decide_eq_decide]
      omega
    · rw [if_neg e, show (lnW S k).testBit c = S (64 * k + c) from blk_bit _ _ _ hc]
      have : ¬ (64 * k + c = j) := by omega
      simp [this]
  · have big : ∀ x, x < 18446744073709551616 → x.testBit c = false := fun x hx => Nat.testBit_lt_two_pow (Nat.lt_of_lt_of_le hx (by rw [show (18446744073709551616 : Nat) = 2 ^ 64 from rfl]; exact Nat.pow_le_pow_right (by decide) (by omega)))
    rw [big (lnW (fun c => S c || decide (c = j)) k) (lnW_lt _ k (by omega))]
    unfold upd
    by_cases e : k = j / 64
    · rw [if_pos e, Nat.testBit_or, big _ (lnW_lt S _ (by omega)), Nat.testBit_two_pow]
      have : ¬ (j % 64 = c) := by omega
      simp [this]
    · rw [if_neg e]
      exact big _ (lnW_lt S k (by omega))
theorem lnRows_put {M : Nat → Nat → Bool} {n i j : Nat} (hi : i < n) (hj : j < 1024) : (lnRows M n).flatten.set (i * 16 + j / 64) (.int .u64 ((lnW (M i) (j / 64) ||| 2 ^ (j % 64) : Nat))) = (lnRows (putM M i j) n).flatten := by
  rw [flat_set (lnRows_even M n) (lnRows_get M hi) _ (by omega)]
  congr 1
  apply List.ext_getElem?
  intro q
  have hset : (Rl (lnW (M i))).toList.set (j / 64) (.int .u64 ((lnW (M i) (j / 64) ||| 2 ^ (j % 64) : Nat))) = (Rl (lnW (putM M i j i))).toList := by
    rw [← Array.toList_setIfInBounds, Rl_set _ _ _ (by omega), lnW_or _ _ hj]
    congr 2
    unfold putM lnW
    congr 1
    funext a c
    simp
  by_cases e : q = i
  · subst e
    rw [List.getElem?_set_self (by rw [lnRows_len]; exact hi), lnRows_get _ hi, hset]
  · rw [List.getElem?_set_ne (fun h => e h.symm)]
    by_cases hq : q < n
    · rw [lnRows_get _ hq, lnRows_get _ hq]
      congr 3
      unfold putM lnW
      congr 1
      funext a c
      simp [e]
    · rw [List.getElem?_eq_none (by rw [lnRows_len]; omega), List.getElem?_eq_none (by rw [lnRows_len]; omega)]
theorem lnRows_congr {M M' : Nat → Nat → Bool} (h : ∀ r c, M r c = M' r c) (n : Nat) : lnRows M n = lnRows M' n := by
  have : M = M' := funext fun r => funext fun c => h r c
  rw [this]
theorem lnW_zero (k : Nat) (hk : k < 16) : lnW (fun _ => false) k = 0 := by
  refine Nat.eq_of_testBit_eq fun c => ?_
  rw [Nat.zero_testBit]
  by_cases hc : c < 64
  · exact blk_bit _ _ _ hc
  · exact Nat.testBit_lt_two_pow (Nat.lt_of_lt_of_le (lnW_lt _ k (by omega)) (by rw [show (18446744073709551616 : Nat) = 2 ^ 64 from rfl]; exact Nat.pow_le_pow_right (by decide) (by omega)))
theorem lnRows_zero (n : Nat) : (lnRows (fun _ _ => false) n).flatten = (madeCells (Value.agg (Rl fun _ => 0)).cells (n * 16)).toList := by
  have hz : ∀ k, k < 16 → (Rl (lnW fun _ => false)).toList[k]? = some (.int .u64 0) := fun k hk => by
    have := Rl_get (lnW fun _ => false) k hk
    rw [lnW_zero k hk] at this
    simpa using this
  have hE := lnRows_even (fun _ _ => false) n
  apply List.ext_getElem?
  intro q
  by_cases hq : q < n * 16
  · have hr : q % 16 < 16 := Nat.mod_lt _ (by decide)
    have hd : q / 16 < n := by omega
    have h1 : (lnRows (fun _ _ => false) n).flatten[q]? = some (.int .u64 0) := by
      have := flat_get hE (lnRows_get (fun _ _ => false) hd) hr
      rw [show q / 16 * 16 + q % 16 = q by omega] at this
      rw [this]
      exact hz _ hr
    rw [h1]
    have h2 := Rl_get (fun _ => 0) (q % 16) hr
    have h3 : ((Value.agg (Rl fun _ => 0)).cells) = Rl fun _ => 0 := rfl
    rw [h3]
    unfold madeCells
    simp [hq, Rl_size]
    have h4 := h2
    simp only [Array.getElem?_eq_some_iff] at h4
    obtain ⟨h5, h6⟩ := h4
    simp [h5, h6]
  · rw [List.getElem?_eq_none (by rw [flat_len hE, lnRows_len]; omega), List.getElem?_eq_none (by simp [madeCells]; omega)]
attribute [local go_sem] Oper.semAt_some
/-- The set of the cells told so far. -/
def preM (pre : List (Nat × Nat)) : Nat → Nat → Bool := fun r c => decide ((r, c) ∈ pre)
theorem preM_app (pre : List (Nat × Nat)) (y : Nat × Nat) : ∀ r c, putM (preM pre) y.1 y.2 r c = preM (pre ++ [y]) r c := fun r c => by
  unfold putM preM
  rw [Bool.eq_iff_iff]
  simp only [Bool.or_eq_true, Bool.and_eq_true, decide_eq_true_eq, List.mem_append, List.mem_singleton]
  rw [Prod.ext_iff]
theorem quo64 (y q : Nat) (h : q = y / 64) : (y : Int) / 64 = (q : Int) := by omega
theorem tmod64 (y c : Nat) (h : c = y % 64) : (y : Int).tmod 64 = (c : Int) := by rw [Int.tmod_eq_emod_of_nonneg (by omega)]; omega
theorem wrap_sm (q : Nat) (h : q < 1024) : IntKind.i64.wrap (q : Int) = (q : Int) := by rw [IntKind.wrap_i64]; omega
structure LI (W0 : World) (base g h3 side : Nat) (pre : List (Nat × Nat)) (V : World) : Prop where
  own : V.ownsRow base 162 16 (.slice (some ⟨g, 0, none⟩) side side) side (lnRows (preM pre) side).flatten
  box : Bk V h3 159 #[.slice (some ⟨g, 0, none⟩) side side]
  far : Far (fun k => k = g) W0 V
theorem LI.go {W0 A B : World} {base g h3 side : Nat} {pre : List (Nat × Nat)} {row : Option Nat} (h : LI W0 base g h3 side pre A) (hg : A.grownBy B row) (hr : ∀ r, row = some r → W0.heap.size ≤ r ∧ ∃ o : Obj, A.heap[r]? = some o ∧ o.isCells = false) : LI W0 base g h3 side pre B :=
  ⟨row_other h.own (grown_F hg) fun k e => (hr k e).2, bk_other h.box (grown_F hg) fun k e => (hr k e).2, far_own h.far hg hr⟩
section
variable {w : World} {B side : Nat} {F : Nat → Prop} {M : Nat → Nat → Bool}
set_option maxHeartbeats 8000000
set_option maxRecDepth 100000
theorem lines_any (h : Mx w B F side M) (hT : Tab w) : Calls Tryd.prog 116 #[.pointer (some ⟨B, 0, none⟩)] w fun e w' => ∃ g, e = .returned (.slice (some ⟨g, 0, none⟩) side side) ∧ w'.ownsRow w.heap.size 162 16 (.slice (some ⟨g, 0, none⟩) side side) side (lnRows M side).flatten ∧ Far (fun _ => False) w w' := by
  have hwin := h.within
  obtain ⟨s1, s2⟩ := h.sides
  have SD := h.side
  have hcan := cells_canon s2 hwin
  obtain ⟨li, hli, lz0, lz1, lz2⟩ := info_parts lineInfo
  have h' := Lib.hid h
  have hwin' := Lib.hid hwin
  have hcan' := Lib.hid hcan
  have hbytes : li.bytes * side ≤ 281474976710656 := by rw [lz2]; omega
  have hmaxl : side ≤ maxLen := by unfold maxLen; omega
  clear h hwin hcan
  refine (callsIn_wide (n := 10)).1 (callsIn_of_wp_marks Tryd.func116 rfl trivial (wpIn_wide.2 ?_) rfl)
  simp only [Tryd.ntmps116, List.size_toArray, List.length_cons, List.length_nil, Nat.reduceAdd, Nat.reduceSub, Array.replicate_succ, Array.replicate_zero, List.push_toArray, List.append_toArray, List.nil_append, List.cons_append]
  go_wp2_with fail
  refine SD.mono ?_
  rintro e w' ⟨rfl, rfl⟩
  clear SD
  go_upto_region 2 with (first | (refine wpList_make_full w rfl _ _ 159 rfl w.heap.size 162 li _ 16 Tryd.underlying159 hli lz0 lz1 .i64 .i64 _ _ side rfl rfl rfl rfl hbytes hmaxl (Nat.le_refl _) ?_; intro w1 ho1 hg1; have ho1' := Lib.hid ho1; have hf1' := Lib.hid ((Far.refl (fun _ => False) w).grown hg1 fun k _ e => by cases e); clear ho1 hg1))
  obtain ⟨g, hg⟩ : ∃ b, b = w.heap.size := ⟨_, rfl⟩
  rw [← hg] at ho1' ⊢
  obtain ⟨h3, hh3⟩ : ∃ b, b = w1.heap.size := ⟨_, rfl⟩
  obtain ⟨w2, hw2⟩ : ∃ V, V = w1.alloc (.cells #[.slice (some ⟨g, 0, none⟩) side side] 159) := ⟨_, rfl⟩
  rw [← hh3, ← hw2]
  have hf12 : Far (fun _ => False) w1 w2 := hw2 ▸ (Far.refl _ w1).alloc _
  have hB3 : Bk w2 h3 159 #[.slice (some ⟨g, 0, none⟩) side side] := hw2 ▸ Bk.new hh3
  have ho2 : w2.ownsRow g 162 16 (.slice (some ⟨g, 0, none⟩) side side) side (lnRows (fun _ _ => false) side).flatten := by
    have := row_same ho1'.out fun k hk hl => hf12.block k hl id
    rw [lnRows_zero]
    exact this
  have hf2 := Lib.hid (hf1'.out.then hf12)
  have hg' := Lib.hid hg
  have ho2' := Lib.hid ho2
  have hB3' := Lib.hid hB3
  have CE := qCells_any (h'.out.still hf2.out)
  clear hw2 hh3 hf12 hB3 ho2 hg ho1' hf1' hbytes hmaxl
  go_wp2_with fail
  refine CE.mono ?_
  rintro e W0 ⟨hb, v, rfl, hbX, hbO, hbz, hf7⟩
  have hI0 : LI W0 g g h3 side [] W0 := ⟨by rw [lnRows_congr (M' := fun _ _ => false) (fun r c => by simp [preM])]; exact row_same ho2'.out fun k hk hl => hf7.block k hl id, hB3'.out.far' hf7 id, Far.refl _ _⟩
  have hfw0 := Lib.hid (hf2.out.then hf7)
  have hTw0 := Lib.hid (hT.still hfw0.out)
  have hbX' := Lib.hid hbX
  have hbO' := Lib.hid hbO
  have hgl := Lib.hid (show g < W0.heap.size ∧ h3 < W0.heap.size from ⟨(hI0.own.lt g rfl).2, hI0.box.lt⟩)
  clear CE hbX hbO hbz hf7 ho2' hB3'
  go_wp2_with fail
  refine (wpIn_wide (n := 10)).1 ?_
  obtain ⟨aov, capv, rfl⟩ := q_form hbO'.out
  obtain ⟨L, hL⟩ : ∃ L, placesL M side = L := ⟨_, rfl⟩
  rw [hL] at hbO' hbX' hcan'
  have hLf : L.length ≤ 256 := by have := placesL_few M s2; rw [hL] at this; exact this
  have hLp : ∀ p ∈ L, p.1 < 16 ∧ p.2 < 16 := fun p hp => by
    rw [← hL] at hp
    obtain ⟨h1, h2, _⟩ := mem_placesL.1 hp
    have := lns_le s2
    omega
  clear hL
  refine name_frame fun T hTT => ?_
  refine range_ok (by decide) (by rw [← hTT]; rfl) (enters_of Tryd.func112 (by kernel_rfl) rfl) (qcells_seq (10 - 1) (by decide) hb w2.heap.size _ M L hLf hLp W0 hbX'.out hbO'.out hTw0.out) KT.trans (fun V l o o' hl h ho => KT.put (B := W0.heap.size) V l o o' hTw0.out.lt hl h ho) (fun _ => rfl)
    (fun pre V => LI W0 g g h3 side pre V) (fun _ _ _ => False) ?own ?ownx hI0
    (fun pre y a' V => ((pre ++ [y]) <+: cellsF M L.length L) ∧ LI W0 g g h3 side pre V ∧ a' = { tmps := ((((T.setIfInBounds 11 (.int .i64 (y.1 : Nat))).setIfInBounds 12 (.int .i64 (y.2 : Nat))).setIfInBounds 4 (.int .i64 (y.1 : Nat))).setIfInBounds 5 (.int .i64 (y.2 : Nat))), defers := [] }) ?hAx ?assign ?body ?done ?stop
  case own => exact fun u A B row h hg hr => LI.go h hg hr
  case ownx => exact fun c u A B row h _ _ => h
  case hAx => exact fun pre y a' u A B row ⟨h1, h2, h3⟩ hg hr => ⟨h1, h2.go hg hr, h3⟩
  case stop => exact fun D c pre V _ _ h _ => h.elim
  case assign =>
    intro l pre y V KK hI hok hK
    have hK' := hK _ V (KeepsFrom.refl _ _) (KT.refl _) hI ⟨hok, hI, rfl⟩
    subst hTT
    simp only [encP, List.zip_toArray, List.zip_cons_cons, List.zip_nil_right, List.foldl_toArray', List.foldl_cons, List.foldl_nil, List.setIfInBounds_toArray, List.set_cons_succ, List.set_cons_zero] at hK' ⊢
    gi_wp2
    exact hK'
  case body =>
    rintro l pre y a' V hl _ ⟨hpre, hI, rfl⟩
    have hm : M y.1 y.2 = true := told_there (hpre.subset (by simp))
    obtain ⟨hy1, hy2⟩ := hwin'.out _ _ hm
    subst hTT
    simp only [List.setIfInBounds_toArray, List.set_cons_succ, List.set_cons_zero]
    gi_wp2
    have hlen16 := hI.own
    have hj64 : (y.2 : Int) < 1024 := by omega
    have hyi1 : (y.1 : Int) < (side : Int) := by omega
    have wj : wrap64 ((y.2 : Int) / 64) = ((y.2 / 64 : Nat) : Int) := by rw [wrap64_of (by omega)]; omega
    have wj2 : IntKind.i64.wrap ((y.2 : Int) / 64) = ((y.2 / 64 : Nat) : Int) := by rw [IntKind.wrap_i64]; omega
    have wm : (y.2 : Int) % 64 = ((y.2 % 64 : Nat) : Int) := by omega
    have hjl : ((y.2 / 64 : Nat) : Int) < 16 := by omega
    have hjm : ((y.2 % 64 : Nat) : Int) < 64 := by omega
    obtain ⟨x, hx⟩ : ∃ x, lnW (preM pre y.1) (y.2 / 64) = x := ⟨_, rfl⟩
    have hxl : x < 18446744073709551616 := hx ▸ lnW_lt _ _ (by omega)
    have hor := or_pw x (y.2 % 64) hxl (Nat.mod_lt _ (by decide))
    have hcell : V.cell? ⟨g, y.1 * 16 + y.2 / 64, none⟩ = some (.int .u64 (x : Nat)) := by
      rw [hlen16.cellAt (y.1 * 16 + y.2 / 64) (by have := Nat.mul_le_mul_right 16 (show y.1 + 1 ≤ side by omega); omega), flat_get (lnRows_even _ _) (lnRows_get _ hy1) (by omega)]
      have := Rl_get (lnW (preM pre y.1)) (y.2 / 64) (by omega)
      rw [hx] at this
      simpa using this
    have hfro : V.frozen? ⟨g, y.1 * 16 + y.2 / 64, none⟩ = false := hlen16.frozenAt _
    obtain ⟨V', hV'⟩ : ∃ V', V' = V.drew.setCell ⟨g, y.1 * 16 + y.2 / 64, none⟩ (.int .u64 ((x ||| 2 ^ (y.2 % 64) : Nat))) := ⟨_, rfl⟩
    have hfd : Far (fun _ => False) V V.drew := (Far.refl _ V).drew
    have hfa : Far (fun q => q = g) V V' := hV' ▸ (hfd.mono (G := fun q => q = g) fun _ _ h => h.elim).set ⟨g, y.1 * 16 + y.2 / 64, none⟩ _ fun _ => rfl
    have hgt : ∃ cs, Bk V g 162 cs := (own_type hI.own rfl).2.2
    have hgh : h3 ≠ g := fun e => by
      obtain ⟨cs, hb9⟩ := hgt
      exact absurd (bk_type hI.box (e ▸ hb9)) (by decide)
    have hn : LI W0 g g h3 side (pre ++ [y]) V' := by
      refine ⟨?_, hI.box.far' hfa hgh, hI.far.trans hfa fun _ _ h => h⟩
      have h1 := (World.ownsRow.stored (w := V.drew) (show V.drew.ownsRow g 162 16 (.slice (some ⟨g, 0, none⟩) side side) side (lnRows (preM pre) side).flatten from hI.own) (y.1 * 16 + y.2 / 64) (.int .u64 ((x ||| 2 ^ (y.2 % 64) : Nat)))).1
      rw [← hx, lnRows_put hy1 (by omega), lnRows_congr (preM_app pre y), hx, ← hV'] at h1
      exact h1
    have hn' := Lib.hid hn
    have hgt' := Lib.hid hgt
    have hfa' := Lib.hid hfa
    have hIh := Lib.hid hI
    have hV'' := Lib.hid hV'
    have cD : V.drew.cell? ⟨g, y.1 * 16 + y.2 / 64, none⟩ = some (.int .u64 (x : Nat)) := hcell
    have fD : V.drew.frozen? ⟨g, y.1 * 16 + y.2 / 64, none⟩ = false := hfro
    have SD : (fun w' : World => Bk w' h3 159 #[.slice (some ⟨g, 0, none⟩) side side]) V.drew := hI.box
    have S9 := Lib.hid (show (fun w' : World => Bk w' h3 159 #[.slice (some ⟨g, 0, none⟩) side side]) V' from hn.box)
    clear hlen16 hn hgt hfa hI hV' hcell hfro hx hpre hm hfd hxl
    obtain ⟨jq, hjq⟩ : ∃ q, q = y.2 / 64 := ⟨_, rfl⟩
    obtain ⟨jc, hjc⟩ : ∃ q, q = y.2 % 64 := ⟨_, rfl⟩
    have hjc64 : jc < 64 := hjc ▸ Nat.mod_lt _ (by decide)
    have hmin : min jc 64 = jc := Nat.min_eq_left (Nat.le_of_lt hjc64)
    have wq := quo64 y.2 jq hjq
    have wt := tmod64 y.2 jc hjc
    have wjq := wrap_sm jq (hjq ▸ Nat.lt_of_le_of_lt (Nat.div_le_self _ _) (Nat.lt_of_lt_of_le hy2 s2))
    rw [← hjq] at hjl cD fD hV''
    rw [← hjc] at hor hV''
    have hjq' := Lib.hid hjq
    have hjc' := Lib.hid hjc
    clear hjq hjc wj wj2 wm hjm
    refine region_in (S := fun w' : World => Bk w' h3 159 #[.slice (some ⟨g, 0, none⟩) side side]) (by kernel_rfl) (by kernel_rfl) SD (fun hS => ?_)
    refine wpAnyH_take (i := 0) (v := ?v0w1) rfl (by kernel_rfl) (by kernel_rfl) (by kernel_rfl) (fun _ _ _ h => h) (Or.inl ⟨by rfl, ?y0w1⟩) (by assumption) ?r0w1
    case y0w1 => (intro w hSw; (try dsimp only at hSw); have g0 : w.cell? ⟨h3, 0, none⟩ = some (.slice (some ⟨g, 0, none⟩) side side) := Bk.cell hSw 0; go_simp; (try with_reducible rfl))
    simp only [Act.put, List.setIfInBounds_toArray, List.set_cons_zero, List.set_cons_succ]
    refine wpAnyH_take (i := 1) (v := ?v1w2) rfl (by kernel_rfl) (by kernel_rfl) (by kernel_rfl) (fun _ _ _ h => h) (Or.inl ⟨by rfl, ?y1w2⟩) (by assumption) ?r1w2
    case y1w2 => (intro w hSw; (try dsimp only at hSw); have g0 : w.cell? ⟨h3, 0, none⟩ = some (.slice (some ⟨g, 0, none⟩) side side) := Bk.cell hSw 0; go_simp; (try with_reducible rfl))
    simp only [Act.put, List.setIfInBounds_toArray, List.set_cons_zero, List.set_cons_succ]
    refine wpAnyH_take (i := 2) (v := ?v2w3) rfl (by kernel_rfl) (by kernel_rfl) (by kernel_rfl) (fun _ _ _ h => h) (Or.inl ⟨by rfl, ?y2w3⟩) (by assumption) ?r2w3
    case y2w3 => (intro w hSw; (try dsimp only at hSw); have g0 : w.cell? ⟨h3, 0, none⟩ = some (.slice (some ⟨g, 0, none⟩) side side) := Bk.cell hSw 0; go_simp; (try with_reducible rfl))
    simp only [Act.put, List.setIfInBounds_toArray, List.set_cons_zero, List.set_cons_succ]
    refine wpAnyH_take (i := 3) (v := ?v3w4) rfl (by kernel_rfl) (by kernel_rfl) (by kernel_rfl) (fun _ _ _ h => h) (Or.inl ⟨by rfl, ?y3w4⟩) (by assumption) ?r3w4
    case y3w4 => (intro w hSw; (try dsimp only at hSw); have g0 : w.cell? ⟨h3, 0, none⟩ = some (.slice (some ⟨g, 0, none⟩) side side) := Bk.cell hSw 0; go_simp; (try with_reducible rfl))
    simp only [Act.put, List.setIfInBounds_toArray, List.set_cons_zero, List.set_cons_succ]
    refine wpAnyH_take (i := 4) (v := ?v4w5) rfl (by kernel_rfl) (by kernel_rfl) (by kernel_rfl) (fun _ _ _ h => h) (Or.inl ⟨by rfl, ?y4w5⟩) (by assumption) ?r4w5
    case y4w5 => (intro w hSw; (try dsimp only at hSw); have g0 : w.cell? ⟨h3, 0, none⟩ = some (.slice (some ⟨g, 0, none⟩) side side) := Bk.cell hSw 0; go_simp; (try with_reducible rfl))
    simp only [Act.put, List.setIfInBounds_toArray, List.set_cons_zero, List.set_cons_succ]
    refine wpAnyH_take (i := 5) (v := ?v5w6) rfl (by kernel_rfl) (by kernel_rfl) (by kernel_rfl) (fun _ _ _ h => h) (Or.inl ⟨by rfl, ?y5w6⟩) (by assumption) ?r5w6
    case y5w6 => (intro w hSw; (try dsimp only at hSw); have g0 : w.cell? ⟨h3, 0, none⟩ = some (.slice (some ⟨g, 0, none⟩) side side) := Bk.cell hSw 0; go_simp; (try with_reducible rfl))
    simp only [Act.put, List.setIfInBounds_toArray, List.set_cons_zero, List.set_cons_succ]
    refine wpAnyH_take (i := 7) (v := ?v7w7) rfl (by kernel_rfl) (by kernel_rfl) (by kernel_rfl) (fun _ _ _ h => h) (Or.inl ⟨by rfl, ?y7w7⟩) (by assumption) ?r7w7
    case y7w7 => (intro w hSw; (try dsimp only at hSw); have g0 : w.cell? ⟨h3, 0, none⟩ = some (.slice (some ⟨g, 0, none⟩) side side) := Bk.cell hSw 0; go_simp; (try with_reducible rfl))
    simp only [Act.put, List.setIfInBounds_toArray, List.set_cons_zero, List.set_cons_succ]
    refine wpAnyH_take (i := 8) (v := ?v8w8) rfl (by kernel_rfl) (by kernel_rfl) (by kernel_rfl) (fun _ _ _ h => h) (Or.inl ⟨by rfl, ?y8w8⟩) (by assumption) ?r8w8
    case y8w8 => (intro w hSw; (try dsimp only at hSw); have g0 : w.cell? ⟨h3, 0, none⟩ = some (.slice (some ⟨g, 0, none⟩) side side) := Bk.cell hSw 0; go_simp; (try with_reducible rfl))
    simp only [Act.put, List.setIfInBounds_toArray, List.set_cons_zero, List.set_cons_succ]
    refine wpAnyH_take (i := 9) (v := ?v9w9) rfl (by kernel_rfl) (by kernel_rfl) (by kernel_rfl) (fun _ _ _ h => h) (Or.inl ⟨by rfl, ?y9w9⟩) (by assumption) ?r9w9
    case y9w9 => (intro w hSw; (try dsimp only at hSw); have g0 : w.cell? ⟨h3, 0, none⟩ = some (.slice (some ⟨g, 0, none⟩) side side) := Bk.cell hSw 0; go_simp; (try with_reducible rfl))
    simp only [Act.put, List.setIfInBounds_toArray, List.set_cons_zero, List.set_cons_succ]
    refine wpAnyH_take (i := 11) (v := ?v11w10) rfl (by kernel_rfl) (by kernel_rfl) (by kernel_rfl) (fun _ _ _ h => h) (Or.inl ⟨by rfl, ?y11w10⟩) (by assumption) ?r11w10
    case y11w10 => (intro w hSw; (try dsimp only at hSw); have g0 : w.cell? ⟨h3, 0, none⟩ = some (.slice (some ⟨g, 0, none⟩) side side) := Bk.cell hSw 0; go_simp; (try with_reducible rfl))
    simp only [Act.put, List.setIfInBounds_toArray, List.set_cons_zero, List.set_cons_succ]
    refine wpAnyH_ready (rs := [6]) (by kernel_rfl) (by decide) (AllReadyH.cons (o := ({ dst := some 19, op := Op.load 87 (Operand.tmp 18), type := 87, pos := "product.go:150", after := #[{ on := 5, ground := Ground.data }], guard := none } : Oper)) rfl (fun K' hK => ?_) AllReadyH.nil)
    go_simp
    refine hK.out _ _ hS fun hS1 => ?_
    clear hK
    (try simp only [Act.put, List.setIfInBounds_toArray, List.set_cons_zero, List.set_cons_succ])
    refine wpAnyH_take (i := 10) (v := ?v10w11) rfl (by kernel_rfl) (by kernel_rfl) (by kernel_rfl) (fun _ _ _ h => h) (Or.inl ⟨by rfl, ?y10w11⟩) (by assumption) ?r10w11
    case y10w11 => (intro w hSw; (try dsimp only at hSw); have g0 : w.cell? ⟨h3, 0, none⟩ = some (.slice (some ⟨g, 0, none⟩) side side) := Bk.cell hSw 0; go_simp; (try with_reducible rfl))
    simp only [Act.put, List.setIfInBounds_toArray, List.set_cons_zero, List.set_cons_succ]
    refine wpAnyH_take (i := 12) (v := ?v12w12) rfl (by kernel_rfl) (by kernel_rfl) (by kernel_rfl) (fun _ _ _ h => h) (Or.inl ⟨by rfl, ?y12w12⟩) (by assumption) ?r12w12
    case y12w12 => (intro w hSw; (try dsimp only at hSw); have g0 : w.cell? ⟨h3, 0, none⟩ = some (.slice (some ⟨g, 0, none⟩) side side) := Bk.cell hSw 0; go_simp; (try with_reducible rfl))
    simp only [Act.put, List.setIfInBounds_toArray, List.set_cons_zero, List.set_cons_succ]
    refine wpAnyH_ready (rs := [13]) (by kernel_rfl) (by decide) (AllReadyH.cons rfl (fun K' hK => ?_) AllReadyH.nil)
    go_simp
    have hV3 : (V.setCell ⟨g, y.1 * 16 + jq, none⟩ (.int .u64 ((x ||| 2 ^ jc : Nat)))).drew = V' := by rw [hV''.out]; rfl
    rw [hV3]
    refine hK.out _ _ S9.out fun hS2 => ?_
    clear hK
    refine wpAnyH_done (by kernel_rfl) ?_ _
    unfold OnlyNormal
    dsimp only
    refine ⟨keeps_far hfa'.out fun k hk => ?_, ⟨hfa'.out.size, fun k hk => hfa'.out.block k ?_ ?_⟩, hn'.out⟩
    · rw [hk]
      obtain ⟨cs, hb9⟩ := hgt'.out
      exact ⟨_, _, hb9⟩
    · rcases hk with rfl | ⟨cs, t, hb', _⟩
      · have := hTw0.out.lt; have := hIh.out.far.size; omega
      · exact hb'.lt
    · intro e
      subst e
      obtain ⟨cs9, hb9⟩ := hgt'.out
      rcases hk with e2 | ⟨cs, t, hb', ht⟩
      · have := hT.lt; have := hg'.out; omega
      · have := bk_type hb' hb9; subst this; revert ht; decide
  case done =>
    rintro D xs V hD rfl hI hK
    have c3 : V.cell? ⟨h3, 0, none⟩ = some (.slice (some ⟨g, 0, none⟩) side side) := hI.box.cell 0
    have hmk := Lib.hid (Marks.cons (Marks.nil w w.heap.size) (Marks.nil V w.heap.size) (Nat.le_trans hfw0.out.size hD) (Nat.le_trans hfw0.out.size hD) hK)
    have hI' := Lib.hid hI
    subst hTT
    clear hI hK
    go_wp2_with fail
    refine leave_marks hmk.out fun W' hfW => ?_
    refine ⟨.slice (some ⟨g, 0, none⟩) side side, by simp [results, Tryd.f116, go_sem], g, rfl, ?_, ?_⟩
    · have ho := row_same hI'.out.own fun k hk hl => hfW.block k hl fun e => by
        obtain ⟨_, _, cs, hb⟩ := own_type hI'.out.own hk
        have := e.2
        rw [show V.heap[k]? = _ from hb] at this
        cases this
      rw [lnRows_congr (M' := M) (fun r c => by
        unfold preM
        rw [Bool.eq_iff_iff, decide_eq_true_eq, hcan'.out]
        exact mem_cellsL hwin'.out), hg'.out] at ho
      rw [hg'.out]
      exact ho
    · exact ((hfw0.out.trans (G := fun k => w.heap.size ≤ k) (hI'.out.far.mono fun k _ e => by have := hg'.out; omega) fun k hk e => by omega).trans (G := fun k => w.heap.size ≤ k) (hfW.mono fun k _ e => e.1) fun k hk e => by omega)
end
end Go.Proofs.YtkobbcmndneajaaDoor
