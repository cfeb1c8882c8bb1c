/-
  What walks of one step to as many as there are rows reach: the law.
-/
import Derived.Test.YtjolkhiggcmoiaaGreatDoorQRAwakeM
import Derived.Test.YtjolkhiggcmoiaaGreatDoorQRFold5
import Derived.Test.YtjolkhiggcmoiaaGreatDoorQRFromM
import Derived.Test.YtjolkhiggcmoiaaGreatDoorQPWalkM
namespace Go.Proofs.YtjolkhiggcmoiaaGreatDoor
open Go.RowKit Go.Shelf
set_option linter.unusedVariables false
set_option linter.unusedSimpArgs false
/-- Met by walks of 1 to p steps. -/
def metW (M : Nat → Nat → Bool) (s f p : Nat) : Nat → Bool := fun c => (List.range p).any fun t => walkS M s f (t + 1) c
theorem metW_iff {M : Nat → Nat → Bool} {s f p c : Nat} : metW M s f p c = true ↔ ∃ t, t < p ∧ walkS M s f (t + 1) c = true := by
  unfold metW
  rw [List.any_eq_true]
  constructor
  · rintro ⟨t, h, e⟩; exact ⟨t, List.mem_range.1 h, e⟩
  · rintro ⟨t, h, e⟩; exact ⟨t, List.mem_range.2 h, e⟩
theorem metW_zero (M : Nat → Nat → Bool) (s f : Nat) : metW M s f 0 = fun _ => false := rfl
theorem metW_succ (M : Nat → Nat → Bool) (s f p : Nat) : metW M s f (p + 1) = fun c => metW M s f p c || walkS M s f (p + 1) c := funext fun c => by
  rw [Bool.eq_iff_iff, Bool.or_eq_true, metW_iff, metW_iff]
  constructor
  · rintro ⟨t, h, e⟩
    by_cases ht : t = p
    · subst ht; exact .inr e
    · exact .inl ⟨t, by omega, e⟩
  · rintro (⟨t, h, e⟩ | e)
    · exact ⟨t, by omega, e⟩
    · exact ⟨p, by omega, e⟩
section
variable {M C : Nat → Nat → Bool} {s f : Nat}
theorem walk_tc (hw : ∀ r c, M r c = true → r < s ∧ c < s) : ∀ t c, walkS M s f (t + 1) c = true → TC M f c
  | 0, c, h => by
    obtain ⟨i, h1, h2⟩ := (stepS_iff hw).1 h
    simp only [walkS, decide_eq_true_eq] at h1
    subst h1
    exact .one h2
  | t + 1, c, h => by
    obtain ⟨i, h1, h2⟩ := (stepS_iff hw).1 h
    exact (walk_tc hw t i h1).trans (.one h2)
theorem met_on (hw : ∀ r c, M r c = true → r < s ∧ c < s) {p x y : Nat} (h : x = f ∨ metW M s f p x = true) (e : M x y = true) : metW M s f (p + 1) y = true := by
  rw [metW_iff]
  rcases h with rfl | h
  · exact ⟨0, by omega, (stepS_iff hw).2 ⟨x, by simp [walkS], e⟩⟩
  · obtain ⟨t, ht, h⟩ := metW_iff.1 h
    exact ⟨t + 1, by omega, (stepS_iff hw).2 ⟨x, h, e⟩⟩
theorem met_up {p q c : Nat} (h : p ≤ q) (e : metW M s f p c = true) : metW M s f q c = true := by
  obtain ⟨t, ht, e⟩ := metW_iff.1 e
  exact metW_iff.2 ⟨t, by omega, e⟩
theorem met_few (hw : ∀ r c, M r c = true → r < s ∧ c < s) : ∀ p, (∃ q, q ≤ p ∧ ∀ c, metW M s f (q + 1) c = true → metW M s f q c = true) ∨ unm s (metW M s f p) + p ≤ s
  | 0 => .inr (unm_le _ _)
  | p + 1 => by
    rcases met_few hw p with ⟨q, hq, h⟩ | h
    · exact .inl ⟨q, by omega, h⟩
    · by_cases hst : ∀ c, metW M s f (p + 1) c = true → metW M s f p c = true
      · exact .inl ⟨p, by omega, hst⟩
      · refine .inr ?_
        have ⟨c, hc⟩ := Classical.not_forall.1 hst
        have h1 : metW M s f (p + 1) c = true := Classical.byContradiction fun h => hc fun e => absurd e h
        have h2 : metW M s f p c = false := by
          cases e : metW M s f p c
          · rfl
          · exact absurd (fun _ => e) hc
        have hcs : c < s := by
          obtain ⟨t, _, e⟩ := metW_iff.1 h1
          exact ((walk_tc hw t c e).within hw).2
        have : unm s (metW M s f (p + 1)) < unm s (metW M s f p) := countP_less (fun x _ hx => by
          cases e : metW M s f p x
          · rfl
          · rw [met_up (Nat.le_succ p) e] at hx
            cases hx) ⟨c, List.mem_range.2 hcs, by rw [h2]; rfl, by rw [h1]; rfl⟩
        omega
theorem met_all (hw : ∀ r c, M r c = true → r < s ∧ c < s) (hC : IsClo M C) (c : Nat) : metW M s f s c = C f c := by
  rw [Bool.eq_iff_iff, hC f c]
  constructor
  · intro h
    obtain ⟨t, _, e⟩ := metW_iff.1 h
    exact walk_tc hw t c e
  · intro h
    rcases met_few (f := f) hw s with ⟨q, hq, hst⟩ | h0
    · exact met_up hq ((met_clo (M := M) (G := metW M s f q) (i := f) (fun x hx j hj => hst j (met_on hw hx hj)) (fun x hx => by
        obtain ⟨t, _, e⟩ := metW_iff.1 hx
        exact walk_tc hw t x e) c).2 h)
    · have h1 : unm s (metW M s f s) = 0 := by omega
      have h2 := (h.within hw).2
      unfold unm at h1
      have := List.countP_eq_zero.1 h1 c (List.mem_range.2 h2)
      simpa using this
end
/-! The columns of a row, so far. -/
theorem cols_step (C : Nat → Nat → Bool) (f j : Nat) : colsM C (j + 1) f = colsM C j f ++ (if C f j = true then [j] else []) := by
  unfold colsM
  rw [List.range_succ, List.filter_append]
  congr 1
  cases h : C f j <;> simp [h]
theorem cols_pre (C : Nat → Nat → Bool) (f : Nat) : ∀ {j k : Nat}, j ≤ k → ∃ t, colsM C k f = colsM C j f ++ t
  | j, 0, h => ⟨[], by rw [show j = 0 by omega]; simp⟩
  | j, k + 1, h => by
    by_cases e : j = k + 1
    · exact ⟨[], by rw [e]; simp⟩
    · obtain ⟨t, ht⟩ := cols_pre C f (j := j) (k := k) (by omega)
      exact ⟨t ++ _, by rw [cols_step, ht, List.append_assoc]⟩
theorem cols_at {C : Nat → Nat → Bool} {f j s : Nat} (hj : j < s) (h : C f j = true) : (colsM C s f)[(colsM C j f).length]? = some j := by
  obtain ⟨t, ht⟩ := cols_pre C f (j := j + 1) (k := s) hj
  rw [ht, cols_step, if_pos h, List.append_assoc, List.getElem?_append_right (Nat.le_refl _)]
  simp
theorem own_nums {w : World} {base : Nat} {e : TypeId} {ao : Option Addr} {n cap k x : Nat} {X : List Nat} (h : w.ownsRow base e 1 (.slice ao n cap) n (ncells X)) (hk : X[k]? = some x) : ∃ g, ao = some ⟨g, 0, none⟩ ∧ base ≤ g ∧ g < w.heap.size ∧ k < n ∧ w.cell? ⟨g, k, none⟩ = some (.int .i64 (x : Int)) := by
  have hl := h.1
  have hk2 := (List.getElem?_eq_some_iff.1 hk).1
  rw [ncells_len] at hl
  rcases h.2 with ⟨h0, hn⟩ | ⟨g, cap', cur, hv, hb, hh, h1, h2, h3, h4⟩
  · omega
  · injection hv with e1 e2 e3
    subst e1
    exact ⟨g, rfl, hb, (Array.getElem?_eq_some_iff.1 hh).1, by omega, nat_row h hk⟩
section
set_option maxHeartbeats 8000000
set_option maxRecDepth 100000
theorem walks_law (w : World) (x : Int) (a1 : Option Addr) (n1 c1 : Nat) (R1 C1 : Nat → Int) (hn1 : n1 ≤ 9223372036854775807) (hc1 : Cls w a1 n1 R1 C1) (z : Int) (hT : Tab w) :
    Calls Tryz.prog 5 #[.int .i64 x, .slice a1 n1 c1, .int .i64 z] w fun e w' => e = .returned (.bool true) ∧ Far (fun _ => False) w w' := by
  obtain ⟨s, hs⟩ : ∃ s, (x % 128).toNat + 1 = s := ⟨_, rfl⟩
  have hs1 : 0 < s := by omega
  have hs2 : s ≤ 1024 := by omega
  have FM := fold05_any x s hs a1 n1 c1 R1 C1 hn1 w hc1
  obtain ⟨M, hM⟩ : ∃ M, foldR05 s R1 C1 n1 = M := ⟨_, rfl⟩
  rw [hM] at FM
  obtain ⟨f, hf⟩ : ∃ f, red05 s z = f := ⟨_, rfl⟩
  have hfs : f < s := hf ▸ red05_lt z hs1
  have ez := i64_and127 z
  have ez2 := red05_tmod s z
  rw [hf] at ez2
  have hs0 : ((s : Int) == 0) = false := by simp; omega
  have hs00 : ¬ ((s : Int) = 0) := by omega
  have hT' := Lib.hid hT
  clear hc1 hT hM hs hf
  go_enter Tryz.func5, Tryz.ntmps5
  go_wp2_with fail
  refine FM.mono ?_
  rintro e w1 ⟨Bm, rfl, Fm, hm, hlom, hf1⟩
  have SD := hm.side
  have MK := make_bools s (by omega) w1
  obtain ⟨g, hg⟩ : ∃ g, g = w1.heap.size := ⟨_, rfl⟩
  obtain ⟨W2, hW2⟩ : ∃ V, V = w1.alloc (.cells (bcells s fun _ => false) 4) := ⟨_, rfl⟩
  rw [← hg, ← hW2] at MK
  have hf2 : Far (fun _ => False) w W2 := hW2 ▸ hf1.alloc _
  have b2 : BRow W2 g s (metW M s f 0) := hW2 ▸ Bk.new hg
  have hm2 : Mx W2 Bm Fm s M := hm.still (hW2 ▸ (Far.refl _ w1).alloc _)
  have hgF : ∀ k, Fm k → k < g := fun k hk => by have := hm.lt k hk; omega
  have hgw := hf1.size
  have hgT : 0 < g := by have := (hT'.out.still hf1).lt; omega
  have hf2' := Lib.hid hf2
  have b2' := Lib.hid b2
  have hm2' := Lib.hid hm2
  have hgF' := Lib.hid hgF
  have hgw' := Lib.hid (show w.heap.size ≤ g by omega)
  have hg2' := Lib.hid (show g < W2.heap.size by rw [hW2, hg]; simp)
  have hgT' := Lib.hid hgT
  clear FM hm hlom hf1 hf2 b2 hm2 hgF hg hW2 hgw hgT
  go_wp2_with fail
  refine SD.mono ?_
  rintro e w' ⟨rfl, rfl⟩
  clear SD
  go_wp2_with fail
  have keepM := Lib.hid (show ∀ V, Far (fun k => k = g) W2 V → Mx V Bm Fm s M ∧ Tab V from fun V hv => ⟨hm2'.out.kept hv fun k hk e => by have := hgF'.out k hk; omega, tab_far (hT'.out.still hf2'.out) hv fun e => by have := hgT'.out; omega⟩)
  go_loopw [10] (fun kv wr => ∃ p : Nat, p ≤ s ∧ kv = .int .i64 ((p : Int) + 1) ∧ BRow wr g s (metW M s f p) ∧ Far (fun k => k = g) W2 wr) (fun kv _ => s + 1 - (intOf kv).toNat)
  case atStart => exact ⟨0, Nat.zero_le _, rfl, b2'.out, Far.refl _ _⟩
  case round =>
    obtain ⟨p, hp, rfl, hb, hfr⟩ := hrel
    obtain ⟨hmr, htr⟩ := keepM.out wr hfr
    have hb' := Lib.hid hb
    have hfr' := Lib.hid hfr
    clear hb hfr
    by_cases hps : p < s
    · have hpi : (p : Int) + 1 ≤ (s : Int) := by omega
      have WK := walk_yes hmr htr f (p + 1) hfs (by omega)
      rw [Int.natCast_add, Int.natCast_one] at WK
      have hmr' := Lib.hid hmr
      have htr' := Lib.hid htr
      clear hmr htr
      go_wp2_with fail
      refine WK.mono ?_
      rintro e w3 ⟨v, rfl, hO, hf3⟩
      obtain ⟨L, hL⟩ : ∃ L, setL (walkS M s f (p + 1)) s = L := ⟨_, rfl⟩
      have hLm : ∀ c, walkS M s f (p + 1) c = true ↔ c ∈ L := fun c => by
        rw [← hL, mem_setL]
        exact ⟨fun h => ⟨walkS_in hmr'.out.within hfs _ c h, h⟩, fun h => h.2⟩
      have hLs : ∀ c ∈ L, c < s := fun c hc => walkS_in hmr'.out.within hfs _ c ((hLm c).2 hc)
      rw [hL] at hO
      obtain ⟨n2, hn2⟩ : ∃ n, L.length = n := ⟨_, rfl⟩
      have hn2s : n2 ≤ s := by rw [← hn2, ← hL]; exact setL_le _ _
      rw [hn2] at hO
      obtain ⟨ao, cap, rfl⟩ := q_form hO
      have hbr : BRow w3 g s (fun c => metW M s f p c || decide (c ∈ L.take 0)) := BRow.congr (show BRow w3 g s (metW M s f p) from Bk.far' hb'.out hf3 fun h => h) fun c _ => by simp
      have hfr3 : Far (fun k => k = g) W2 w3 := hfr'.out.trans hf3 fun _ _ h => h.elim
      have hgl : g < wr.heap.size := Bk.lt hb'.out
      have hO' := Lib.hid hO
      have hLm' := Lib.hid hLm
      have hLs' := Lib.hid hLs
      have hn2' := Lib.hid hn2
      have hbr' := Lib.hid hbr
      have hfr3' := Lib.hid hfr3
      have hgl' := Lib.hid hgl
      clear WK hb' hfr' hmr' htr' hO hL hLm hLs hn2 hbr hfr3 hf3 hgl
      go_upto_region 14 with fail
      go_loopw [13] (fun iv wq => ∃ q : Nat, q ≤ n2 ∧ iv = .int .i64 (q : Nat) ∧ BRow wq g s (fun c => metW M s f p c || decide (c ∈ L.take q)) ∧ Far (fun k => k = g) w3 wq) (fun iv _ => n2 - (intOf iv).toNat)
      case atStart => exact ⟨0, Nat.zero_le _, rfl, hbr'.out, Far.refl _ _⟩
      case round =>
        obtain ⟨q, hq, rfl, hb, hfq⟩ := hrel
        by_cases hqn : q < n2
        · have hqi : (q : Int) < (n2 : Int) := by omega
          obtain ⟨y, hy⟩ : ∃ y, L[q]? = some y := ⟨_, List.getElem?_eq_getElem (by rw [hn2'.out]; exact hqn)⟩
          have hOq := row_same (w' := wr) hO'.out fun k hk hl => hfq.block k hl fun e => by
            have := (hO'.out.lt k hk).1
            have := hgl'.out
            omega
          obtain ⟨g3, rfl, hg3, hg3l, _, hcy⟩ := own_nums hOq hy
          have hym : y ∈ L := List.mem_of_getElem? hy
          have hys : (y : Int) < (s : Int) := by have := hLs'.out y hym; omega
          have hfrz := BRow.free hb y
          have hb2 : BRow (wr.setCell ⟨g, y, none⟩ (.bool true)) g s (fun c => metW M s f p c || decide (c ∈ L.take (q + 1))) := BRow.congr (BRow.put hb y) fun c _ => by
            unfold setB
            rw [List.take_add_one, hy, Bool.eq_iff_iff]
            split
            · rename_i e; subst e; simp
            · rename_i e; simp [e]
          have hf2q : Far (fun k => k = g) w3 (wr.setCell ⟨g, y, none⟩ (.bool true)) := hfq.set _ _ fun _ => rfl
          have hb2' := Lib.hid hb2
          have hf2q' := Lib.hid hf2q
          have hcg := BRow.get hb y (hLs'.out y hym)
          have hb3' := Lib.hid hb
          clear hb hfq hOq hb2 hf2q hy hym
          go_wp2_with fail
          exact ⟨⟨q + 1, by omega, by go_num, hb2'.out, hf2q'.out⟩, by simp only [intOf]; omega⟩
        · have hqe : q = n2 := by omega
          subst hqe
          have hqi : ¬ (q : Int) < (q : Int) := by omega
          have htk : L.take q = L := by rw [← hn2'.out, List.take_length]
          have hb2 : BRow wr g s (metW M s f (p + 1)) := BRow.congr hb fun c _ => by
            rw [htk, metW_succ]
            congr 1
            rw [Bool.eq_iff_iff, decide_eq_true_eq, hLm'.out]
          have hfr4 : Far (fun k => k = g) W2 wr := hfr3'.out.trans hfq fun _ _ h => h
          have hb2' := Lib.hid hb2
          have hfr4' := Lib.hid hfr4
          have hps2 : (p : Int) + 1 + 1 ≤ 9223372036854775807 := by omega
          clear hb hfq htk hb2 hfr4
          go_wp2_with fail
          exact ⟨⟨p + 1, by omega, by go_num, hb2'.out, hfr4'.out⟩, by simp only [intOf]; omega⟩
    · obtain rfl : s = p := by omega
      have hpi : ¬ (s : Int) + 1 ≤ (s : Int) := by omega
      obtain ⟨C0, hC0⟩ := exists_clo M
      have FR := from_yes hmr htr hC0 f hfs
      have hwin := hmr.within
      have hbC : BRow wr g s (fun c => C0 f c) := BRow.congr hb'.out fun c _ => met_all hwin hC0 c
      have hbC' := Lib.hid hbC
      have hmr' := Lib.hid hmr
      have htr' := Lib.hid htr
      have hC0' := Lib.hid hC0
      clear hmr htr hC0 hwin hbC hb' b2' hm2' keepM MK
      go_wp2_with fail
      refine FR.mono ?_
      rintro e w4 ⟨v1, rfl, ho1, hf4⟩
      have CL := rclosure_yes (hmr'.out.still hf4) (htr'.out.still hf4)
      obtain ⟨N, hN⟩ : ∃ N, (colsM C0 s f).length = N := ⟨_, rfl⟩
      rw [hN] at ho1
      obtain ⟨ao1, cap1, rfl⟩ := q_form ho1
      have ho1' := Lib.hid ho1
      have hf4' := Lib.hid hf4
      have hN' := Lib.hid hN
      clear FR ho1 hf4 hN hmr'
      go_wp2_with fail
      refine CL.mono ?_
      rintro e w5 ⟨Bc, rfl, Fc, C, hclo, hc, hloc, hf5⟩
      obtain rfl : C0 = C := funext fun a => funext fun b => hC0'.out.same hclo a b
      have RW := qrow_any hc ((htr'.out.still hf4'.out).still hf5) f hfs
      rw [hN'.out] at RW
      have hf5' := Lib.hid hf5
      clear CL hclo hc hloc hf5
      go_wp2_with fail
      refine RW.mono ?_
      rintro e w6 ⟨v2, rfl, ho2, hf6⟩
      obtain ⟨ao2, cap2, rfl⟩ := q_form ho2
      have hb6 : BRow w6 g s (fun c => C0 f c) := ((Bk.far' hbC'.out hf4'.out fun h => h).far' hf5'.out fun h => h).far' hf6 fun h => h
      have ho16 := row_same ho1'.out (w' := w6) fun k hk hl => ((hf5'.out.then hf6).block k hl fun h => h)
      have hf26 : Far (fun k => k = g) W2 w6 := hfr'.out.trans (hf4'.out.then (hf5'.out.then hf6)) fun _ _ h => h.elim
      have ht6 : Tab w6 := ((htr'.out.still hf4'.out).still hf5'.out).still hf6
      have hf26' := Lib.hid hf26
      have hb6' := Lib.hid hb6
      have ho1' := Lib.hid ho16
      have ho2' := Lib.hid ho2
      have ht6' := Lib.hid ht6
      have hNs : N ≤ s := by rw [← hN'.out]; exact colsM_le _ _ _
      clear RW ho2 hf6 hb6 ho16 hf26 ht6 hbC' hf4' hf5' htr' hfr'
      go_wp2_with fail
      go_loopw [19, 20] (fun cv jv wr => ∃ j : Nat, j ≤ s ∧ jv = .int .i64 (j : Nat) ∧ cv = .int .i64 ((colsM C0 j f).length : Nat) ∧ wr = w6) (fun _ jv _ => s - (intOf jv).toNat)
      case atStart => exact ⟨0, Nat.zero_le _, rfl, by simp [colsM], rfl⟩
      case round =>
        obtain ⟨j, hj, rfl, rfl, rfl⟩ := hrel
        obtain ⟨cnt, hcnt⟩ : ∃ n, (colsM C0 j f).length = n := ⟨_, rfl⟩
        rw [hcnt]
        have hcs : cnt ≤ s := by rw [← hcnt]; exact Nat.le_trans (colsM_le _ _ _) hj
        by_cases hjs : j < s
        · have hji : (j : Int) < (s : Int) := by omega
          have hcell := BRow.get hb6'.out j hjs
          have hst := cols_step C0 f j
          cases hcj : C0 f j with
          | true =>
            have hcell2 : wr.cell? ⟨g, j, none⟩ = some (.bool true) := by rw [hcell, hcj]
            have hat := cols_at hjs hcj
            rw [hcnt] at hat
            obtain ⟨g1, rfl, _, hg1, hcN, c1c⟩ := own_nums ho1'.out hat
            obtain ⟨g2, rfl, _, hg2, _, c2c⟩ := own_nums ho2'.out hat
            have hcNi : (cnt : Int) < (N : Int) := by omega
            have hnx : (colsM C0 (j + 1) f).length = cnt + 1 := by rw [hst, if_pos hcj, List.length_append, hcnt]; rfl
            have ne1 : ((j : Int) != (j : Int)) = false := by simp
            have hnx' := Lib.hid hnx
            clear hcell hst hat hcj hcnt hnx
            go_wp2_with fail
            exact ⟨⟨j + 1, by omega, by go_num, by rw [hnx'.out]; go_num, by first | rfl | trivial⟩, by simp only [intOf]; omega⟩
          | false =>
            have hcell2 : wr.cell? ⟨g, j, none⟩ = some (.bool false) := by rw [hcell, hcj]
            have hnx : (colsM C0 (j + 1) f).length = cnt := by rw [hst, hcj, if_neg (by simp), List.append_nil, hcnt]
            have hnx' := Lib.hid hnx
            clear hcell hst hcj hcnt hnx
            go_wp2_with fail
            exact ⟨⟨j + 1, by omega, by go_num, by rw [hnx'.out], by first | rfl | trivial⟩, by simp only [intOf]; omega⟩
        · obtain rfl : s = j := by omega
          have hji : ¬ (s : Int) < (s : Int) := by omega
          have e1 : cnt = N := by rw [← hcnt]; exact hN'.out
          subst e1
          have AW := awake05_any wr ht6'.out
          have eqq : ((cnt : Int) == (cnt : Int)) = true := by simp
          clear hcnt
          go_wp2_with fail
          refine AW.mono ?_
          rintro e w7 ⟨rfl, hf7⟩
          have hend : Far (fun _ => False) w w7 := (hf2'.out.trans hf26'.out (F := fun _ => False) fun k hk e => by
            subst e
            have := hgw'.out
            omega).then hf7
          have hend' := Lib.hid hend
          clear AW hf7 hend
          go_wp2_with fail
          go_ret
          exact ⟨rfl, hend'.out⟩
end
end Go.Proofs.YtjolkhiggcmoiaaGreatDoor
