/-
  A row that gains all that is beyond a new step: add's first inner function.
-/
import Derived.Test.YtjolkhiggcmoiaaGreatDoorQRKeep
import Derived.Test.YtjolkhiggcmoiaaGreatDoorQRFlow
namespace Go.Proofs.YtjolkhiggcmoiaaGreatDoor
open Go.RowKit Go.Shelf
set_option linter.unusedVariables false
set_option linter.unusedSimpArgs false
/-- What is told so far: each new cell once. -/
structure TM (C cur : Nat → Nat → Bool) (told : List (Nat × Nat)) : Prop where
  sub : ∀ r c, C r c = true → cur r c = true
  nod : told.Nodup
  mem : ∀ x, x ∈ told ↔ cur x.1 x.2 = true ∧ C x.1 x.2 = false
theorem TM.start (C : Nat → Nat → Bool) : TM C C [] := ⟨fun _ _ h => h, List.nodup_nil, fun x => ⟨fun h => (by cases h), fun ⟨h1, h2⟩ => by rw [h1] at h2; cases h2⟩⟩
theorem TM.congr {C cur cur' : Nat → Nat → Bool} {told : List (Nat × Nat)} (h : TM C cur told) (e : ∀ r c, cur' r c = cur r c) : TM C cur' told := by
  have : cur' = cur := funext fun r => funext fun c => e r c
  rw [this]; exact h
theorem TM.put {C cur : Nat → Nat → Bool} {told : List (Nat × Nat)} {r c : Nat} (h : TM C cur told) (hn : cur r c = false) : TM C (putM cur r c) (told ++ [(r, c)]) := by
  have hiff : ∀ a b, putM cur r c a b = true ↔ cur a b = true ∨ (a = r ∧ b = c) := fun a b => by
    unfold putM
    simp only [Bool.or_eq_true, Bool.and_eq_true, decide_eq_true_eq]
  have hC : C r c = false := by
    cases hc : C r c
    · rfl
    · rw [h.sub r c hc] at hn; cases hn
  refine ⟨fun a b e => (hiff a b).2 (.inl (h.sub a b e)), ?_, fun x => ?_⟩
  · rw [List.nodup_append]
    refine ⟨h.nod, by simp, fun a ha b hb e => ?_⟩
    rw [List.mem_singleton] at hb
    subst e hb
    rw [((h.mem _).1 ha).1] at hn
    cases hn
  · rw [List.mem_append, List.mem_singleton, h.mem, hiff]
    constructor
    · rintro (⟨h1, h2⟩ | rfl)
      · exact ⟨.inl h1, h2⟩
      · exact ⟨.inr ⟨rfl, rfl⟩, hC⟩
    · rintro ⟨h1 | ⟨h1, h2⟩, h3⟩
      · exact .inl ⟨h1, h3⟩
      · exact .inr (Prod.ext h1 h2)
/-- The cells of a list. -/
def listM (t : List (Nat × Nat)) : Nat → Nat → Bool := fun a b => decide ((a, b) ∈ t)
theorem num_list : ∀ {t : List (Nat × Nat)}, t.Nodup → (∀ x ∈ t, x.1 < 1024 ∧ x.2 < 1024) → numM (listM t) = t.length := by
  intro t
  induction t with
  | nil => intro _ _; exact (numM_congr fun r c => by simp [listM]).trans numM_zero
  | cons x t ih =>
    intro hn hb
    rw [List.nodup_cons] at hn
    have h := numM_put (M := listM t) (hb x (by simp)).1 (hb x (by simp)).2 (by simp [listM, hn.1])
    rw [ih hn.2 fun y hy => hb y (by simp [hy])] at h
    rw [List.length_cons, ← h]
    refine numM_congr fun r c => ?_
    unfold listM putM
    rw [Bool.eq_iff_iff]
    simp only [Bool.or_eq_true, Bool.and_eq_true, decide_eq_true_eq, List.mem_cons]
    constructor
    · rintro (h | h)
      · subst h; exact .inr ⟨rfl, rfl⟩
      · exact .inl h
    · rintro (h | ⟨rfl, rfl⟩)
      · exact .inr h
      · exact .inl rfl
theorem TM.few {C cur : Nat → Nat → Bool} {told : List (Nat × Nat)} {s : Nat} (h : TM C cur told) (hs : s ≤ 1024) (hw : ∀ r c, cur r c = true → r < s ∧ c < s) : told.length ≤ 1048576 := by
  rw [← num_list h.nod fun x hx => by have := hw _ _ ((h.mem x).1 hx).1; omega]
  exact numM_le _
/-- A row more: what it gains of a list. -/
def rowS (cur : Nat → Nat → Bool) (r : Nat) (l : List Nat) : Nat → Nat → Bool := fun a b => cur a b || (decide (a = r) && decide (b ∈ l))
theorem rowS_nil (cur : Nat → Nat → Bool) (r : Nat) : rowS cur r [] = cur := by funext a b; simp [rowS]
theorem rowS_snoc (cur : Nat → Nat → Bool) (r : Nat) (l : List Nat) (c : Nat) : putM (rowS cur r l) r c = rowS cur r (l ++ [c]) := by
  funext a b
  unfold putM rowS
  rw [Bool.eq_iff_iff]
  simp only [Bool.or_eq_true, Bool.and_eq_true, decide_eq_true_eq, List.mem_append, List.mem_singleton]
  constructor
  · rintro ((h | ⟨h1, h2⟩) | ⟨h1, h2⟩)
    · exact .inl h
    · exact .inr ⟨h1, .inl h2⟩
    · exact .inr ⟨h1, .inr h2⟩
  · rintro (h | ⟨h1, h2 | h2⟩)
    · exact .inl (.inl h)
    · exact .inl (.inr ⟨h1, h2⟩)
    · exact .inr ⟨h1, h2⟩
theorem rowS_old {cur : Nat → Nat → Bool} {r : Nat} {l : List Nat} {c : Nat} (h : rowS cur r l r c = true) : rowS cur r (l ++ [c]) = rowS cur r l := by
  rw [← rowS_snoc]
  funext a b
  exact putM_same h a b
/-- What is told of to: a function that takes a cell more into its list. -/
structure Tel (s : Nat) (tf : Nat) (tl : Array Value) (TI : List (Nat × Nat) → (Nat → Prop) → World → Prop) : Prop where
  enter : ∀ args w, (callFunc tf args).run Tryz.prog w = .ok (.enter tf args) w
  lt : ∀ t F V, TI t F V → ∀ k, F k → k < V.heap.size
  still : ∀ t F V V' H, TI t F V → Far H V V' → (∀ k, F k → ¬ H k) → TI t F V'
  tell : ∀ t F V, TI t F V → ∀ r c, r < s → c < s → t.length < 1048576 → Calls Tryz.prog tf (#[.int .i64 (r : Nat), .int .i64 (c : Nat)] ++ tl) V fun e w' => e = .returned (.tuple #[]) ∧ ∃ F', TI (t ++ [(r, c)]) F' w' ∧ Mv V w' F F'
/-- Where gain's variables lie; FX: what stays as it is. -/
structure GB (FX : Nat → Prop) (B ps pb pc hk hj hb ht b0 gb cb s j : Nat) (X : List Nat) (Fb : Nat → Prop) (Mt : Nat → Nat → Bool) (tf : Nat) (tl : Array Value) (TI : List (Nat × Nat) → (Nat → Prop) → World → Prop) (cur : Nat → Nat → Bool) (Fc Ft : Nat → Prop) (told : List (Nat × Nat)) (V : World) : Prop where
  kb : Bk V B 90 #[.pointer (some ⟨ps, 0, none⟩), .pointer (some ⟨pb, 0, none⟩), .pointer (some ⟨pc, 0, none⟩)]
  k1 : Bk V hk 42 #[.pointer (some ⟨B, 0, none⟩)]
  k2 : Bk V hj 3 #[.int .i64 (j : Nat)]
  k3 : Bk V hb 30 #[.slice (some ⟨gb, 0, none⟩) X.length cb]
  k4 : Bk V ht 114 #[.func (.func tf) #[] tl]
  kx : V.ownsRow b0 3 1 (.slice (some ⟨gb, 0, none⟩) X.length cb) X.length (ncells X)
  kt : Tab V
  mb : Mx V pb Fb s Mt
  mc : Mx V pc Fc s cur
  ti : TI told Ft V
  fx : FX B ∧ FX hk ∧ FX hj ∧ FX hb ∧ FX ht ∧ FX gb ∧ FX 0 ∧ ∀ k, Fb k → FX k
  xlt : ∀ k, FX k → k < V.heap.size
  x1 : ∀ k, FX k → ¬ Fc k ∧ ¬ Ft k
  x2 : ∀ k, Fc k → ¬ Ft k
theorem tab_far {w w' : World} {H : Nat → Prop} (h : Tab w) (hf : Far H w w') (hn : ¬ H 0) : Tab w' := fun j hj => (cell_eq (hf.block _ h.lt hn)).trans (h j hj)
section
variable {FX : Nat → Prop} {B ps pb pc hk hj hb ht b0 gb cb s j : Nat} {X : List Nat} {Fb : Nat → Prop} {Mt : Nat → Nat → Bool} {tf : Nat} {tl : Array Value} {TI : List (Nat × Nat) → (Nat → Prop) → World → Prop} {cur : Nat → Nat → Bool} {Fc Ft : Nat → Prop} {told : List (Nat × Nat)} {V V' : World}
theorem GB.kept {H : Nat → Prop} (hT : Tel s tf tl TI) (h : GB FX B ps pb pc hk hj hb ht b0 gb cb s j X Fb Mt tf tl TI cur Fc Ft told V) (hf : Far H V V') (hx : ∀ k, FX k → ¬ H k) (hc : ∀ k, Fc k → ¬ H k) (hft : ∀ k, Ft k → ¬ H k) : GB FX B ps pb pc hk hj hb ht b0 gb cb s j X Fb Mt tf tl TI cur Fc Ft told V' := by
  obtain ⟨f1, f2, f3, f4, f5, f6, f7, f8⟩ := h.fx
  exact ⟨h.kb.far' hf (hx _ f1), h.k1.far' hf (hx _ f2), h.k2.far' hf (hx _ f3), h.k3.far' hf (hx _ f4), h.k4.far' hf (hx _ f5), row_same h.kx fun k hk hl => hf.block k hl (by cases hk; exact hx _ f6), tab_far h.kt hf (hx _ f7), h.mb.kept hf fun k hk => hx _ (f8 k hk), h.mc.kept hf hc, hT.still _ _ _ _ _ h.ti hf hft, h.fx, fun k hk => Nat.lt_of_lt_of_le (h.xlt k hk) hf.size, h.x1, h.x2⟩
theorem GB.still (hT : Tel s tf tl TI) (h : GB FX B ps pb pc hk hj hb ht b0 gb cb s j X Fb Mt tf tl TI cur Fc Ft told V) (hf : Far (fun _ => False) V V') : GB FX B ps pb pc hk hj hb ht b0 gb cb s j X Fb Mt tf tl TI cur Fc Ft told V' := h.kept hT hf (fun _ _ h => h) (fun _ _ h => h) fun _ _ h => h
theorem GB.set {Fc' : Nat → Prop} {cur' : Nat → Nat → Bool} (hT : Tel s tf tl TI) (h : GB FX B ps pb pc hk hj hb ht b0 gb cb s j X Fb Mt tf tl TI cur Fc Ft told V) (hm : Mx V' pc Fc' s cur') (hv : Mv V V' Fc Fc') : GB FX B ps pb pc hk hj hb ht b0 gb cb s j X Fb Mt tf tl TI cur' Fc' Ft told V' := by
  obtain ⟨f1, f2, f3, f4, f5, f6, f7, f8⟩ := h.fx
  have hx := fun k hk => (h.x1 k hk).1
  have htl := hT.lt _ _ _ h.ti
  have hf := hv.far
  exact ⟨h.kb.far' hf (hx _ f1), h.k1.far' hf (hx _ f2), h.k2.far' hf (hx _ f3), h.k3.far' hf (hx _ f4), h.k4.far' hf (hx _ f5), row_same h.kx fun k hk hl => hf.block k hl (by cases hk; exact hx _ f6), tab_far h.kt hf (hx _ f7), h.mb.kept hf fun k hk => hx _ (f8 k hk), hm, hT.still _ _ _ _ _ h.ti hf fun k hk hc => h.x2 k hc hk, h.fx, fun k hk => Nat.lt_of_lt_of_le (h.xlt k hk) hf.size,
    fun k hk => ⟨fun e => (hv.more k e).elim (hx k hk) fun e => by have := h.xlt k hk; omega, (h.x1 k hk).2⟩, fun k e e2 => (hv.more k e).elim (fun e => h.x2 k e e2) fun e => by have := htl k e2; omega⟩
theorem GB.say {Ft' : Nat → Prop} {told' : List (Nat × Nat)} (h : GB FX B ps pb pc hk hj hb ht b0 gb cb s j X Fb Mt tf tl TI cur Fc Ft told V) (hm : TI told' Ft' V') (hv : Mv V V' Ft Ft') : GB FX B ps pb pc hk hj hb ht b0 gb cb s j X Fb Mt tf tl TI cur Fc Ft' told' V' := by
  obtain ⟨f1, f2, f3, f4, f5, f6, f7, f8⟩ := h.fx
  have hx := fun k hk => (h.x1 k hk).2
  have hcl := h.mc.lt
  have hf := hv.far
  exact ⟨h.kb.far' hf (hx _ f1), h.k1.far' hf (hx _ f2), h.k2.far' hf (hx _ f3), h.k3.far' hf (hx _ f4), h.k4.far' hf (hx _ f5), row_same h.kx fun k hk hl => hf.block k hl (by cases hk; exact hx _ f6), tab_far h.kt hf (hx _ f7), h.mb.kept hf fun k hk => hx _ (f8 k hk), h.mc.kept hf fun k hk e => h.x2 k hk e, hm, h.fx, fun k hk => Nat.lt_of_lt_of_le (h.xlt k hk) hf.size,
    fun k hk => ⟨(h.x1 k hk).1, fun e => (hv.more k e).elim (hx k hk) fun e => by have := h.xlt k hk; omega⟩, fun k e e2 => (hv.more k e2).elim (h.x2 k e) fun e2 => by have := hcl k e; omega⟩
/-- The blocks that change. -/
def CF (Fc Ft : Nat → Prop) (k : Nat) : Prop := Fc k ∨ Ft k
theorem mv_c {Fc' : Nat → Prop} (hv : Mv V V' Fc Fc') : Mv V V' (CF Fc Ft) (CF Fc' Ft) := ⟨hv.far.mono fun k _ h => .inl h, fun k h => by
  rcases h with h | h
  · exact (hv.more k h).imp (fun h => .inl h) id
  · exact .inl (.inr h)⟩
theorem mv_t {Ft' : Nat → Prop} (hv : Mv V V' Ft Ft') : Mv V V' (CF Fc Ft) (CF Fc Ft') := ⟨hv.far.mono fun k _ h => .inr h, fun k h => by
  rcases h with h | h
  · exact .inl (.inl h)
  · exact (hv.more k h).imp (fun h => .inr h) id⟩
section
set_option maxHeartbeats 8000000
set_option maxRecDepth 100000
theorem kreach_box {w : World} (hb : Bk w B 90 #[.pointer (some ⟨ps, 0, none⟩), .pointer (some ⟨pb, 0, none⟩), .pointer (some ⟨pc, 0, none⟩)]) (hc : Mx w pc Fc s cur) (i j : Nat) (hi : i < s) (hj : j < s) : Calls Tryz.prog 91 #[.pointer (some ⟨B, 0, none⟩), .int .i64 (i : Nat), .int .i64 (j : Nat)] w fun e w' => e = .returned (.bool (cur i j)) ∧ Far (fun _ => False) w w' := by
  have c2 : w.cell? ⟨B, 2, none⟩ = some (.pointer (some ⟨pc, 0, none⟩)) := hb.cell 2
  have G := hc.get i j hi hj
  clear hb hc
  go_enter Tryz.func91, Tryz.ntmps91
  go_wp2_with fail
  refine G.mono ?_
  rintro e w1 ⟨rfl, hf⟩
  go_wp2_with fail
  go_ret
  exact ⟨rfl, hf⟩
theorem gain_any {C : Nat → Nat → Bool} (hT : Tel s tf tl TI) (hX : ∀ c ∈ X, c < s) (hX2 : X.length ≤ 1048576) (hs : s ≤ 1024) (hjs : j < s) (h : GB FX B ps pb pc hk hj hb ht b0 gb cb s j X Fb Mt tf tl TI cur Fc Ft told V) (hm : TM C cur told) (r : Nat) (hr : r < s) :
    Calls Tryz.prog 92 #[.int .i64 (r : Nat), .pointer (some ⟨hk, 0, none⟩), .pointer (some ⟨hj, 0, none⟩), .pointer (some ⟨hb, 0, none⟩), .pointer (some ⟨ht, 0, none⟩)] V fun e w' => e = .returned (.bool (!(cur r j))) ∧ ∃ Fc' Ft' told', GB FX B ps pb pc hk hj hb ht b0 gb cb s j X Fb Mt tf tl TI (if cur r j = true then cur else rowS cur r X) Fc' Ft' told' w' ∧ TM C (if cur r j = true then cur else rowS cur r X) told' ∧ Mv V w' (CF Fc Ft) (CF Fc' Ft') := by
  have ent := hT.enter
  have c1 : V.cell? ⟨hk, 0, none⟩ = some (.pointer (some ⟨B, 0, none⟩)) := h.k1.cell 0
  have c2 : V.cell? ⟨hj, 0, none⟩ = some (.int .i64 (j : Nat)) := h.k2.cell 0
  have RE := kreach_box h.kb h.mc r j hr hjs
  have h' := Lib.hid h
  have hm' := Lib.hid hm
  have hT' := Lib.hid hT
  have hX' := Lib.hid hX
  clear h hm hT hX
  cases hcur : cur r j with
  | true =>
    rw [hcur] at RE
    rw [if_pos rfl]
    clear hcur
    go_enter Tryz.func92, Tryz.ntmps92
    go_wp2_with fail
    refine RE.mono ?_
    rintro e w1 ⟨rfl, hf1⟩
    have hf1' := Lib.hid hf1
    clear RE hf1
    go_wp2_with fail
    go_ret
    exact ⟨rfl, Fc, Ft, told, h'.out.still hT'.out hf1'.out, hm'.out, Mv.still hf1'.out⟩
  | false =>
    rw [hcur] at RE
    rw [if_neg (by simp)]
    clear hcur
    go_enter Tryz.func92, Tryz.ntmps92
    go_wp2_with fail
    refine RE.mono ?_
    rintro e w1 ⟨rfl, hf1⟩
    have h1 := Lib.hid (h'.out.still hT'.out hf1)
    have hv1 := Lib.hid (Mv.still hf1 : Mv V w1 (CF Fc Ft) (CF Fc Ft))
    have c3 : w1.cell? ⟨hb, 0, none⟩ = some (.slice (some ⟨gb, 0, none⟩) X.length cb) := h1.out.k3.cell 0
    obtain ⟨N, hN⟩ : ∃ N, X.length = N := ⟨_, rfl⟩
    rw [hN] at c3 hX2
    have hN' := Lib.hid hN
    clear RE hf1 c1 c2 hN
    go_wp2_with fail
    go_loopw [17] (fun iv wr => ∃ (p : Nat) (Fc2 Ft2 : Nat → Prop) (told2 : List (Nat × Nat)), p ≤ N ∧ iv = .int .i64 (p : Nat) ∧ GB FX B ps pb pc hk hj hb ht b0 gb cb s j X Fb Mt tf tl TI (rowS cur r (X.take p)) Fc2 Ft2 told2 wr ∧ TM C (rowS cur r (X.take p)) told2 ∧ Mv V wr (CF Fc Ft) (CF Fc2 Ft2)) (fun iv _ => N - (intOf iv).toNat)
    case atStart => exact ⟨0, Fc, Ft, told, Nat.zero_le _, rfl, by rw [List.take_zero, rowS_nil]; exact h1.out, by rw [List.take_zero, rowS_nil]; exact hm'.out, hv1.out⟩
    case round =>
      clear h1 hv1 h' hm' c3
      obtain ⟨p, Fc2, Ft2, told2, hp, rfl, h2, hm2, hv2⟩ := hrel
      have h2' := Lib.hid h2
      have hm2' := Lib.hid hm2
      have hv2' := Lib.hid hv2
      obtain ⟨wi, hwi⟩ : ∃ wi, wi = wr := ⟨_, rfl⟩
      rw [← hwi] at h2' hv2' ⊢
      clear h2 hm2 hv2 hwi
      by_cases hpN : p < N
      · have hpi : (p : Int) < (N : Int) := by omega
        have hpb : (p : Int) + 1 ≤ 9223372036854775807 := by omega
        obtain ⟨c, hc⟩ : ∃ c, X[p]? = some c := ⟨_, List.getElem?_eq_getElem (by rw [hN'.out]; exact hpN)⟩
        have hcx := nat_row h2'.out.kx hc
        have hcs := hX'.out c (List.mem_of_getElem? hc)
        have htk : X.take (p + 1) = X.take p ++ [c] := by rw [List.take_add_one, hc]; rfl
        have c1 : wi.cell? ⟨hk, 0, none⟩ = some (.pointer (some ⟨B, 0, none⟩)) := h2'.out.k1.cell 0
        have cB : wi.cell? ⟨B, 2, none⟩ = some (.pointer (some ⟨pc, 0, none⟩)) := h2'.out.kb.cell 2
        have SE := qset_yes h2'.out.mc r c hr hcs
        have hgl : gb < wi.heap.size := (h2'.out.kx.lt gb rfl).2
        have htk' := Lib.hid htk
        clear hc htk
        go_wp2_with fail
        refine SE.mono ?_
        rintro e w2 ⟨rfl, Fc3, hX3, hv3⟩
        have h3 := h2'.out.set hT'.out hX3 hv3
        rw [rowS_snoc, ← htk'.out] at h3
        have h3' := Lib.hid h3
        have hv3' := Lib.hid (hv2'.out.trans (mv_c hv3))
        have c4 : w2.cell? ⟨ht, 0, none⟩ = some (.func (.func tf) #[] tl) := h3.k4.cell 0
        have hwin := Lib.hid h3.mc.within
        clear SE hX3 hv3 h3 c1 cB hcx
        cases hfr : rowS cur r (X.take p) r c with
        | true =>
          have hsame := rowS_old hfr
          rw [← htk'.out] at hsame
          have hm3 := hm2'.out
          rw [← hsame] at hm3
          have hm3' := Lib.hid hm3
          clear hm3 hsame hfr
          go_wp2_with fail
          go_roundw
          case rel => exact ⟨p + 1, Fc3, Ft2, told2, by omega, by go_num, h3'.out, hm3'.out, hv3'.out⟩
          case measure => simp only [intOf]; omega
        | false =>
          have hm3 := hm2'.out.put hfr
          rw [rowS_snoc, ← htk'.out] at hm3
          have hlen := hm3.few hs hwin.out
          rw [List.length_append, List.length_singleton] at hlen
          have TE := hT'.out.tell _ _ _ h3'.out.ti r c hr hcs (by omega)
          have hm3' := Lib.hid hm3
          clear hm3 hfr
          go_wp2_with fail
          refine TE.mono ?_
          rintro e w3 ⟨rfl, Ft3, hti, hv4⟩
          have h4' := Lib.hid (h3'.out.say hti hv4)
          have hv4' := Lib.hid (hv3'.out.trans (mv_t hv4))
          clear TE hti hv4
          go_wp2_with fail
          go_roundw
          case rel => exact ⟨p + 1, Fc3, Ft3, _, by omega, by go_num, h4'.out, hm3'.out, hv4'.out⟩
          case measure => simp only [intOf]; omega
      · have hpe : p = N := by omega
        subst hpe
        have hpi : ¬ (p : Int) < (p : Int) := by omega
        have htk : X.take p = X := by rw [← hN'.out, List.take_length]
        rw [htk] at h2' hm2'
        clear htk
        go_wp2_with fail
        go_ret
        exact ⟨rfl, Fc2, Ft2, told2, h2'.out, hm2'.out, hv2'.out⟩
end
end
end Go.Proofs.YtjolkhiggcmoiaaGreatDoor
