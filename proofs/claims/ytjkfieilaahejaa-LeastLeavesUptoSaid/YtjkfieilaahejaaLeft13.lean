/-
  The document's Left: all that comes of a body, put in.
-/
import Derived.Test.YtjkfieilaahejaaWithM13
import Derived.Test.YtjkfieilaahejaaBodySeq13
import Derived.Test.YtjkfieilaahejaaSorted12
import Derived.Test.YtjkfieilaahejaaRefE13
namespace Go.Proofs.Ytjkfieilaahejaa
open Go.RowKit
set_option linter.unusedVariables false
set_option linter.unusedSimpArgs false
/-- What Left does to a list. -/
def LeftOK (E : Nat → Bool) (hd : Int) (bd kp : List Sy) (L L' : List Tr) : Prop :=
  L'.length ≤ L.length + 2 ^ (placesF E 0 bd).length ∧ (∀ t ∈ L', t ∈ L ∨ t.2.2.length ≤ kp.length + bd.length) ∧
  (Up (L.map pl) → Up (L'.map pl) ∧ ∀ x, x ∈ L'.map pl ↔ x ∈ L.map pl ∨ ∃ y, Drop E bd y ∧ kp ++ y ≠ [] ∧ x = (hd, kp ++ y))
theorem left_nil0 (E : Nat → Bool) (hd : Int) (L : List Tr) : LeftOK E hd [] [] L L := ⟨by simp [placesF], fun t h => .inl h, fun h => ⟨h, fun x => ⟨.inl, fun h => h.elim id fun ⟨y, hy, hn, _⟩ => by cases hy; exact absurd rfl hn⟩⟩⟩
theorem left_nil1 (E : Nat → Bool) (hd : Int) (kp : List Sy) (v : Value) (L : List Tr) (hk : kp ≠ []) : LeftOK E hd [] kp L (insL L (hd, v, kp)) := by
  refine ⟨?_, fun t h => ?_, fun h => ?_⟩
  · simpa [placesF] using insL_len L (hd, v, kp)
  · rcases insL_mem h with rfl | h
    · exact .inr (by simp)
    · exact .inl h
  · obtain ⟨h1, h2⟩ := insL_up (hd, v, kp) h
    refine ⟨h1, fun x => (h2 x).trans ⟨fun h => h.elim (fun e => .inr ⟨[], .nil, by simpa using hk, by rw [e]; simp [pl]⟩) .inl, fun h => h.elim .inr fun ⟨y, hy, _, e⟩ => .inl ?_⟩⟩
    cases hy
    rw [e]
    simp [pl]
theorem left_stay {E : Nat → Bool} {hd : Int} {s : Sy} {bd kp : List Sy} {L L' : List Tr} (hs : goS E s = false) (h : LeftOK E hd bd (kp ++ [s]) L L') : LeftOK E hd (s :: bd) kp L L' := by
  obtain ⟨h1, h2, h3⟩ := h
  refine ⟨?_, fun t ht => (h2 t ht).imp id fun h => by simp at h ⊢; omega, fun hu => ⟨(h3 hu).1, fun x => ((h3 hu).2 x).trans (or_congr_right ⟨?_, ?_⟩)⟩⟩
  · rw [placesF, if_neg (by simp [hs]), places_len E bd (0 + 1) 0]
    exact h1
  · rintro ⟨y, hy, hn, e⟩
    exact ⟨s :: y, .stay hy, by simp, by rw [e]; simp⟩
  · rintro ⟨y, hy, hn, e⟩
    cases hy with
    | @stay _ _ y hy => exact ⟨y, hy, by simp, by rw [e]; simp⟩
    | go hg _ => rw [hs] at hg; cases hg
theorem left_go {E : Nat → Bool} {hd : Int} {s : Sy} {bd kp : List Sy} {L M L' : List Tr} (hs : goS E s = true) (h : LeftOK E hd bd kp L M) (k : LeftOK E hd bd (kp ++ [s]) M L') : LeftOK E hd (s :: bd) kp L L' := by
  obtain ⟨h1, h2, h3⟩ := h
  obtain ⟨k1, k2, k3⟩ := k
  refine ⟨?_, fun t ht => ?_, fun hu => ?_⟩
  · rw [placesF, if_pos hs, List.length_cons, places_len E bd (0 + 1) 0, Nat.pow_succ]
    omega
  · rcases k2 t ht with h | h
    · exact (h2 t h).imp id fun h => by simp; omega
    · exact .inr (by simp at h ⊢; omega)
  · obtain ⟨a1, a2⟩ := h3 hu
    obtain ⟨b1, b2⟩ := k3 a1
    refine ⟨b1, fun x => (b2 x).trans ⟨fun h => ?_, fun h => ?_⟩⟩
    · rcases h with h | ⟨y, hy, hn, e⟩
      · exact ((a2 x).1 h).imp id fun ⟨y, hy, hn, e⟩ => ⟨y, .go hs hy, hn, e⟩
      · exact .inr ⟨s :: y, .stay hy, by simp, by rw [e]; simp⟩
    · rcases h with h | ⟨y, hy, hn, e⟩
      · exact .inl ((a2 x).2 (.inl h))
      · cases hy with
        | @stay _ _ y hy => exact .inr ⟨y, hy, by simp, by rw [e]; simp⟩
        | go hg hy => exact .inl ((a2 x).2 (.inr ⟨y, hy, hn, e⟩))
theorem left_lens {E : Nat → Bool} {hd : Int} {bd kp : List Sy} {L L' : List Tr} {B : Nat} (h : LeftOK E hd bd kp L L') (hL : ∀ t ∈ L, t.2.2.length ≤ B) (hk : kp.length + bd.length ≤ B) : ∀ t ∈ L', t.2.2.length ≤ B := fun t ht => (h.2.1 t ht).elim (hL t) fun h => Nat.le_trans h hk
/-- The tail of a body. -/
theorem Body.tail {w : World} {b off c : Nat} {s : Sy} {l : List Sy} (h : Body w (.slice (some ⟨b, off, none⟩) (l.length + 1) c) (s :: l)) : Body w (.slice (some ⟨b, off + 2, none⟩) l.length (c - 1)) l := by
  obtain ⟨h1, h2⟩ := h
  refine ⟨by rw [scells_len], .inr ⟨_, _, rfl, fun j u hu => ?_⟩⟩
  rcases h2 with ⟨e, _⟩ | ⟨a, c', e, h2⟩
  · cases e
  · cases e
    have := h2 (j + 2) u (by simpa [scells, scell] using hu)
    simp only [Addr.add] at this ⊢
    rw [if_neg (by omega)] at this
    split
    · rename_i e; subst e; simpa using this
    · rw [show off + 2 + j = off + (j + 2) by omega]; exact this
/-- No longer than its room. -/
def Capd (v : Value) : Prop := ∀ a n c, v = .slice a n c → n ≤ c
theorem body_zero {w : World} {a : Addr} {n c : Nat} {l : List Sy} (h : n = l.length) (h0 : n = 0) : Body w (.slice (some a) n c) l := by
  subst h
  have : l = [] := List.length_eq_zero_iff.1 h0
  subst this
  exact ⟨by simp [scells], .inr ⟨_, _, rfl, fun j u hu => by simp [scells] at hu⟩⟩
theorem places_stay {E : Nat → Bool} {s : Sy} {bd : List Sy} (h : goS E s = false) : (placesF E 0 (s :: bd)).length = (placesF E 0 bd).length := by
  rw [placesF, if_neg (by simp [h]), places_len E bd (0 + 1) 0]
theorem places_go {E : Nat → Bool} {s : Sy} {bd : List Sy} (h : goS E s = true) : (placesF E 0 (s :: bd)).length = (placesF E 0 bd).length + 1 := by
  rw [placesF, if_pos h, List.length_cons, places_len E bd (0 + 1) 0]
section
set_option maxHeartbeats 8000000
set_option maxRecDepth 100000
theorem left_any (S : Nat) (E : Nat → Bool) (gR B0 : Nat) (hd : Int) (hS : S ≤ 1024) : ∀ (bd kp : List Sy) (lv kv bv : Value) (L : List Tr) (w : World), OwnP w B0 lv L → Body w kv kp → Body w bv bd → Capd bv → BRow w gR S E → B0 ≤ w.heap.size → (∀ s ∈ bd, SymIn S s) →
    L.length + 2 ^ (placesF E 0 bd).length ≤ 4398046510976 → (∀ t ∈ L, t.2.2.length ≤ 1099511627776) → kp.length + bd.length ≤ 1099511627776 →
    Calls Try.prog 31 #[lv, .int .i64 hd, kv, bv, .slice (some ⟨gR, 0, none⟩) S S] w fun e w' => ∃ v' L', e = .returned v' ∧ OwnP w' B0 v' L' ∧ Far (fun _ => False) w w' ∧ LeftOK E hd bd kp L L'
  | [], kp, lv, kv, bv, L, w, hL, hK, hB, hcap, hR, hB0, hsy, hn, hLl, hkl => by
    obtain ⟨ao, ac, rfl⟩ := Src.form (Src.own hL.1)
    obtain ⟨ko, kc, rfl⟩ := Src.form hK
    obtain ⟨bo, bc, rfl⟩ := Src.form hB
    have hL' := Lib.hid hL
    have hK' := Lib.hid hK
    have hLl' := Lib.hid hLl
    have hn1 : L.length ≤ 4398046510976 := Nat.le_trans (Nat.le_add_right _ _) hn
    clear hL hK hB hcap hR hsy hn hLl
    simp only [List.length_nil, Nat.add_zero] at hkl ⊢
    go_enter Try.func31, Try.ntmps31
    cases kp with
    | nil =>
      simp only [List.length_nil] at *
      go_wp2_with fail
      go_ret
      exact ⟨_, L, rfl, hL'.out, Far.refl _ _, left_nil0 E hd L⟩
    | cons s0 kp =>
      obtain ⟨si, sz, si1, si2, si3, si4, si5⟩ := info3 info_sym
      have A1 := Lib.hid (World.ownsRow_nil w w.heap.size 50 2)
      have A3 := Lib.hid (scells_one (s0 :: kp))
      have A4 : 0 + (s0 :: kp).length ≤ maxLen := by unfold maxLen; omega
      have A5 : (0 + (s0 :: kp).length) * 16 ≤ 140737488355328 := by omega
      have A6 : w.heap.size ≤ w.heap.size := Nat.le_refl _
      have A7 : 0 < 2 := by decide
      obtain ⟨n0, hn0⟩ : ∃ n0, n0 = (s0 :: kp).length := ⟨_, rfl⟩
      have hn0' := Lib.hid hn0
      have hpos : 0 < n0 := by rw [hn0]; simp
      rw [← hn0] at hkl A4 A5 ⊢
      have hz : ((n0 : Int) == 0) = false := by rw [beq_eq_false_iff_ne]; omega
      have A2 := Lib.hid (show Src w 2 (.slice ko n0 kc) n0 (scells (s0 :: kp)) by rw [hn0]; exact hK'.out)
      clear hn0 hK'
      go_wp2_with (first | (at_builtin; refine wpList_app rfl _ _ 42 rfl w.heap.size 50 si sz 2 16 Try.underlying42 si1 si2 si3 si4 si5 A7 _ 0 _ rfl A1.out (.slice ko n0 kc) n0 _ rfl A2.out A3.out A4 A5 A6 ?_; intro v1 wb ho1 hg1; rw [Nat.zero_add, List.nil_append] at ho1; obtain ⟨vo, vc, rfl⟩ := Src.form (Src.own ho1); have hfb := Lib.hid (show Far (fun _ => False) w wb from (Far.refl _ w).grown hg1 (fun k _ e => by cases e)); have hO := Lib.hid (hL'.out.move hfb.out); have IN := Lib.hid (insert_any B0 (.slice ao L.length ac) L (hd, .slice vo n0 vc, s0 :: kp) wb hO.out.prods hO.out.2 (.inr (show World.ownsRow wb 0 _ 2 (.slice vo n0 vc) (s0 :: kp).length _ from by rw [← hn0'.out]; exact row_zero ho1)) (Nat.le_trans hB0 hfb.out.size) hn1 (fun t ht => Nat.le_trans (hLl'.out t ht) (by decide)) (by rw [← hn0'.out]; exact Nat.le_trans hkl (by decide))); simp only [] at IN; clear ho1 hg1) | (go_at_call 55; refine IN.out.mono ?_; rintro e w2 ⟨v2, rfl, hO2, hf2⟩; obtain ⟨vo2, vc2, rfl⟩ := Src.form (Src.own hO2.1); have hO2' := Lib.hid hO2; have hf2' := Lib.hid hf2; clear hO2 hf2))
      go_ret
      exact ⟨_, _, rfl, hO2'.out, hfb.out.then hf2'.out, left_nil1 E hd (s0 :: kp) _ L (by simp)⟩
  | (sb, sn) :: bd, kp, lv, kv, bv, L, w, hL, hK, hB, hcap, hR, hB0, hsy, hn, hLl, hkl => by
    obtain ⟨ao, ac, rfl⟩ := Src.form (Src.own hL.1)
    obtain ⟨ko, kc, rfl⟩ := Src.form hK
    obtain ⟨b, off, bc, rfl, hbl, c0, c1⟩ := Body.sym hB (k := 0) (s := (sb, sn)) rfl
    simp only [Nat.zero_mul, Nat.add_zero] at c0 c1
    have hBt := Lib.hid (Body.tail hB)
    have hL' := Lib.hid hL
    have hK' := Lib.hid hK
    have hR' := Lib.hid hR
    have hn' := Lib.hid hn
    have hLl' := Lib.hid hLl
    have hx := hsy (sb, sn) (List.mem_cons_self ..)
    have hsy' := Lib.hid (fun s hs => hsy s (List.mem_cons_of_mem _ hs))
    clear hL hK hB hR hsy hn hLl
    have hcb : bd.length + 1 ≤ bc := hcap _ _ _ rfl
    clear hcap
    simp only [List.length_cons] at hkl ⊢
    obtain ⟨n0, hn0⟩ : ∃ n0, n0 = kp.length := ⟨_, rfl⟩
    have hn0' := Lib.hid hn0
    have A2 := Lib.hid (show Src w 2 (.slice ko n0 kc) n0 (scells kp) by rw [hn0]; exact hK'.out)
    have A3 := Lib.hid (scells_one kp)
    rw [← hn0] at hkl ⊢
    clear hn0
    obtain ⟨n1, hn1⟩ : ∃ n1, n1 = bd.length := ⟨_, rfl⟩
    have hn1' := Lib.hid hn1
    rw [← hn1] at hkl hBt hcb ⊢
    clear hn1
    have A4 : 0 + n0 ≤ maxLen := by unfold maxLen; omega
    have A5 : (0 + n0) * 16 ≤ 140737488355328 := by omega
    have A7 : 0 < 2 := by decide
    have z0 : (((n1 + 1 : Nat) : Int) == 0) = false := by rw [beq_eq_false_iff_ne]; omega
    have z1 : (((n1 : Nat) : Int) + 1 == 0) = false := by rw [beq_eq_false_iff_ne]; omega
    have z2 : decide ((0 : Int) < (n1 : Int) + 1) = true := by rw [decide_eq_true_eq]; omega
    obtain ⟨si, sz, si1, si2, si3, si4, si5⟩ := info3 info_sym
    obtain ⟨kx, hkx⟩ : ∃ k, k = w.heap.size := ⟨_, rfl⟩
    obtain ⟨wx, hwx⟩ : ∃ wx, wx = w.alloc (.cells #[.bool sb, .int .i64 sn] 50) := ⟨_, rfl⟩
    have fwx : Far (fun _ => False) w wx := hwx ▸ alloc_far0 _ _
    have hX := Lib.hid (hwx ▸ Bk.new hkx : Bk wx kx 50 #[.bool sb, .int .i64 sn])
    have y0 : wx.cell? ⟨kx, 0, none⟩ = some (.bool sb) := hX.out.cell 0
    have y1 : wx.cell? ⟨kx, 1, none⟩ = some (.int .i64 sn) := hX.out.cell 1
    have hwx' := Lib.hid hwx
    have hkx' := Lib.hid hkx
    have hfx := Lib.hid fwx
    have hB1 : B0 ≤ wx.heap.size := Nat.le_trans hB0 fwx.size
    have hRx := Lib.hid (show BRow wx gR S E from Bk.far' hR'.out fwx id)
    clear hwx hkx fwx
    go_enter Try.func31, Try.ntmps31
    cases sb with
    | true =>
      clear hx
      have A2w := Lib.hid (show Src wx 2 (.slice ko n0 kc) n0 (scells kp) from Src.move A2.out hfx.out)
      have hXw := hX
      have hgs := Lib.hid (show goS E (true, sn) = false from by simp [goS])
      have hnM := Lib.hid (show L.length + 2 ^ (placesF E 0 bd).length ≤ 4398046510976 by have := hn'.out; rw [places_stay hgs.out] at this; exact this)
      have hLM := hLl'
      have hLw := Lib.hid (hL'.out.move hfx.out)
      have hRw := hRx
      have hBw := Lib.hid hB1
      have hBw2 := Lib.hid (hBt.out.move hfx.out)
      go_wp2_with (first | (go_at_call 31; refine (IH.out _ (by first | exact hT5.out | exact body_zero hn1'.out (by omega)) (by intro a n c e; cases e; omega)).mono ?_; rintro e w6 ⟨v6, L6, rfl, hO6, hF6, hOK6⟩; obtain ⟨vo6, vc6, rfl⟩ := Src.form (Src.own hO6.1); have hO6' := Lib.hid hO6; have hF6' := Lib.hid hF6; have hOK6' := Lib.hid hOK6; clear hO6 hF6 hOK6) | (at_builtin; refine wpList_app rfl _ _ 42 rfl wx.heap.size 50 si sz 2 16 Try.underlying42 si1 si2 si3 si4 si5 A7 (.slice vo n0 vc) n0 _ rfl B1.out (.slice (some ⟨wb.heap.size, 0, none⟩) 1 1) 1 _ rfl B2.out B3.out B4 B5 B6 ?_; intro v2 w5 ho5 hg5; obtain ⟨vo2, vc2, rfl⟩ := Src.form (Src.own ho5); have hfz := Lib.hid (show Far (fun _ => False) wx w5 from (hfb.out.then (alloc_far0 _ _)).out (grown_far hg5) fun i hi e => by (have := (World.ownsRow.lt hO1.out i e).1; omega)); have hK5 := Lib.hid (show Body w5 (.slice vo2 (n0 + 1) vc2) (kp ++ [(true, sn)]) from (by have h9 := Src.own ho5; unfold Body; rw [List.length_append, scells_app, ← hn0'.out]; exact h9)); have IH := Lib.hid (fun bv (hbv : Body w5 bv bd) (hcv : Capd bv) => left_any S E gR B0 hd hS bd (kp ++ [(true, sn)]) (.slice ao L.length ac) (.slice vo2 (n0 + 1) vc2) bv L w5 (hLw.out.move hfz.out) hK5.out hbv hcv (Bk.far' hRw.out hfz.out id) (Nat.le_trans hBw.out hfz.out.size) hsy'.out hnM.out hLM.out (by rw [List.length_append, ← hn0'.out, ← hn1'.out]; simp only [List.length_cons, List.length_nil]; omega)); have hT5 := Lib.hid (hBw2.out.move hfz.out); clear ho5 hg5) | (at_builtin; rw [← hkx'.out, ← hwx'.out]; refine wpList_app rfl _ _ 42 rfl wx.heap.size 50 si sz 2 16 Try.underlying42 si1 si2 si3 si4 si5 A7 _ 0 _ rfl (World.ownsRow_nil wx wx.heap.size 50 2) (.slice ko n0 kc) n0 _ rfl A2w.out A3.out A4 A5 (Nat.le_refl _) ?_; intro v1 wb ho1 hg1; rw [Nat.zero_add, List.nil_append] at ho1; obtain ⟨vo, vc, rfl⟩ := Src.form (Src.own ho1); have hfb := Lib.hid (show Far (fun _ => False) wx wb from (Far.refl _ wx).grown hg1 (fun k _ e => by cases e)); have x0 : wb.cell? ⟨kx, 0, none⟩ = some (.bool true) := (hXw.out.far' hfb.out id).cell 0; have x1 : wb.cell? ⟨kx, 1, none⟩ = some (.int .i64 sn) := (hXw.out.far' hfb.out id).cell 1; have hO1 := Lib.hid ho1; have B1 := Lib.hid (World.ownsRow.alloc ho1 (.cells #[.bool true, .int .i64 sn] 50)); have B2 := Lib.hid (src_new wb 50 [.bool true, .int .i64 sn]); have B3 := Lib.hid (show ∀ u ∈ [(.bool true : Value), .int .i64 sn], u.oneCell' = true by simp [Value.oneCell']); have B4 : n0 + 1 ≤ maxLen := (by unfold maxLen; omega); have B5 : (n0 + 1) * 16 ≤ 140737488355328 := (by omega); have B6 : wx.heap.size ≤ (wb.alloc (.cells #[.bool true, .int .i64 sn] 50)).heap.size := Nat.le_trans hfb.out.size (alloc_far0 _ _).size; clear ho1 hg1))
      all_goals
        go_ret
        exact ⟨_, L6, rfl, hO6'.out, (hfx.out.then hfz.out).then hF6'.out, left_stay hgs.out hOK6'.out⟩
    | false =>
      obtain ⟨h0, h1⟩ := hx rfl
      obtain ⟨k, rfl⟩ : ∃ k : Nat, sn = (k : Int) := ⟨sn.toNat, by omega⟩
      have hk : k < S := by omega
      have hkI : (k : Int) < (S : Int) := by omega
      clear h0 h1
      have d0 : w.cell? ⟨gR, k, none⟩ = some (.bool (E k)) := BRow.at hR'.out hk
      have hgl : gR < w.heap.size := Bk.lt hR'.out
      by_cases hem : E k = true
      · rw [hem] at d0
        have hgs := Lib.hid (show goS E (false, (k : Int)) = true by simp [goS, hem])
        have hng := Lib.hid (show L.length + 2 ^ (placesF E 0 bd).length + 2 ^ (placesF E 0 bd).length ≤ 4398046510976 by have := hn'.out; rw [places_go hgs.out, Nat.pow_succ] at this; omega)
        have hn1L := Lib.hid (Nat.le_trans (Nat.le_add_right _ _) hng.out)
        clear hem
        have hBx2 := Lib.hid (hBt.out.move hfx.out)
        have hKx := Lib.hid (show Body wx (.slice ko n0 kc) kp from by have h9 := A2.out.move hfx.out; unfold Body; rw [← hn0'.out]; exact h9)
        have IH1 := Lib.hid (fun bv (hbv : Body wx bv bd) (hcv : Capd bv) => left_any S E gR B0 hd hS bd kp (.slice ao L.length ac) (.slice ko n0 kc) bv L wx (hL'.out.move hfx.out) hKx.out hbv hcv hRx.out hB1 hsy'.out hn1L.out hLl'.out (by rw [← hn0'.out, ← hn1'.out]; omega))
        go_wp2_with (first | (go_at_call 31; refine (IH.out _ (by first | exact hT5.out | exact body_zero hn1'.out (by omega)) (by intro a n c e; cases e; omega)).mono ?_; rintro e w6 ⟨v6, L6, rfl, hO6, hF6, hOK6⟩; obtain ⟨vo6, vc6, rfl⟩ := Src.form (Src.own hO6.1); have hO6' := Lib.hid hO6; have hF6' := Lib.hid hF6; have hOK6' := Lib.hid hOK6; clear hO6 hF6 hOK6) | (at_builtin; refine wpList_app rfl _ _ 42 rfl w2.heap.size 50 si sz 2 16 Try.underlying42 si1 si2 si3 si4 si5 A7 (.slice vo n0 vc) n0 _ rfl B1.out (.slice (some ⟨wb.heap.size, 0, none⟩) 1 1) 1 _ rfl B2.out B3.out B4 B5 B6 ?_; intro v2 w5 ho5 hg5; obtain ⟨vo2, vc2, rfl⟩ := Src.form (Src.own ho5); have hfz := Lib.hid (show Far (fun _ => False) w2 w5 from (hfb.out.then (alloc_far0 _ _)).out (grown_far hg5) fun i hi e => by { have := (World.ownsRow.lt hO1.out i e).1; omega }); have hK5 := Lib.hid (show Body w5 (.slice vo2 (n0 + 1) vc2) (kp ++ [(false, (k : Int))]) from (by have h9 := Src.own ho5; unfold Body; rw [List.length_append, scells_app, ← hn0'.out]; exact h9)); have IH := Lib.hid (fun bv (hbv : Body w5 bv bd) (hcv : Capd bv) => left_any S E gR B0 hd hS bd (kp ++ [(false, (k : Int))]) (.slice mo M.length mc) (.slice vo2 (n0 + 1) vc2) bv M w5 (hLw.out.move hfz.out) hK5.out hbv hcv (Bk.far' hRw.out hfz.out id) (Nat.le_trans hBw.out hfz.out.size) hsy'.out hnM.out hLM.out (by rw [List.length_append, ← hn0'.out, ← hn1'.out]; simp only [List.length_cons, List.length_nil]; omega)); have hT5 := Lib.hid (hBw2.out.move hfz.out); clear ho5 hg5) | (at_builtin; refine wpList_app rfl _ _ 42 rfl w2.heap.size 50 si sz 2 16 Try.underlying42 si1 si2 si3 si4 si5 A7 _ 0 _ rfl (World.ownsRow_nil w2 w2.heap.size 50 2) (.slice ko n0 kc) n0 _ rfl A2w.out A3.out A4 A5 (Nat.le_refl _) ?_; intro v1 wb ho1 hg1; rw [Nat.zero_add, List.nil_append] at ho1; obtain ⟨vo, vc, rfl⟩ := Src.form (Src.own ho1); have hfb := Lib.hid (show Far (fun _ => False) w2 wb from (Far.refl _ w2).grown hg1 (fun k _ e => by cases e)); have x0 : wb.cell? ⟨kx, 0, none⟩ = some (.bool false) := (hXw.out.far' hfb.out id).cell 0; have x1 : wb.cell? ⟨kx, 1, none⟩ = some (.int .i64 (k : Int)) := (hXw.out.far' hfb.out id).cell 1; have hO1 := Lib.hid ho1; have B1 := Lib.hid (World.ownsRow.alloc ho1 (.cells #[.bool false, .int .i64 (k : Int)] 50)); have B2 := Lib.hid (src_new wb 50 [.bool false, .int .i64 (k : Int)]); have B3 := Lib.hid (show ∀ u ∈ [(.bool false : Value), .int .i64 (k : Int)], u.oneCell' = true by simp [Value.oneCell']); have B4 : n0 + 1 ≤ maxLen := (by unfold maxLen; omega); have B5 : (n0 + 1) * 16 ≤ 140737488355328 := (by omega); have B6 : w2.heap.size ≤ (wb.alloc (.cells #[.bool false, .int .i64 (k : Int)] 50)).heap.size := Nat.le_trans hfb.out.size (alloc_far0 _ _).size; clear ho1 hg1) | (go_at_call 31; rw [← hkx'.out, ← hwx'.out]; refine (IH1.out _ (by first | exact hBx2.out | exact body_zero hn1'.out (by omega)) (by intro a n c e; cases e; omega)).mono ?_; rintro e w2 ⟨v2, M, rfl, hOM, hFM, hOKM⟩; obtain ⟨mo, mc, rfl⟩ := Src.form (Src.own hOM.1); have A2w := Lib.hid (show Src w2 2 (.slice ko n0 kc) n0 (scells kp) from Src.move A2.out (hfx.out.then hFM)); have hXw := Lib.hid (hX.out.far' hFM id); have hnM := Lib.hid (show M.length + 2 ^ (placesF E 0 bd).length ≤ 4398046510976 from (by have := hOKM.1; have := hng.out; omega)); have hLM := Lib.hid (left_lens (B := 1099511627776) hOKM hLl'.out (by rw [← hn0'.out, ← hn1'.out]; omega)); have hLw := Lib.hid hOM; have hRw := Lib.hid (show BRow w2 gR S E from Bk.far' hRx.out hFM id); have hBw := Lib.hid (Nat.le_trans hB1 hFM.size); have hBw2 := Lib.hid (hBx2.out.move hFM); have hFM' := Lib.hid hFM; have hOKM' := Lib.hid hOKM; have u0 : w2.cell? ⟨kx, 0, none⟩ = some (.bool false) := hXw.out.cell 0; have u1 : w2.cell? ⟨kx, 1, none⟩ = some (.int .i64 (k : Int)) := hXw.out.cell 1; clear hOM hFM hOKM))
        all_goals
          go_ret
          exact ⟨_, L6, rfl, hO6'.out, ((hfx.out.then hFM'.out).then hfz.out).then hF6'.out, left_go hgs.out hOKM'.out hOK6'.out⟩
      · have hem' : E k = false := by simpa using hem
        rw [hem'] at d0
        have A2w := Lib.hid (show Src wx 2 (.slice ko n0 kc) n0 (scells kp) from Src.move A2.out hfx.out)
        have hXw := hX
        have hgs := Lib.hid (show goS E (false, (k : Int)) = false from by simp [goS, hem'])
        have hnM := Lib.hid (show L.length + 2 ^ (placesF E 0 bd).length ≤ 4398046510976 by have := hn'.out; rw [places_stay hgs.out] at this; exact this)
        have hLM := hLl'
        have hLw := Lib.hid (hL'.out.move hfx.out)
        have hRw := hRx
        have hBw := Lib.hid hB1
        have hBw2 := Lib.hid (hBt.out.move hfx.out)
        clear hem hem'
        go_wp2_with (first | (go_at_call 31; refine (IH.out _ (by first | exact hT5.out | exact body_zero hn1'.out (by omega)) (by intro a n c e; cases e; omega)).mono ?_; rintro e w6 ⟨v6, L6, rfl, hO6, hF6, hOK6⟩; obtain ⟨vo6, vc6, rfl⟩ := Src.form (Src.own hO6.1); have hO6' := Lib.hid hO6; have hF6' := Lib.hid hF6; have hOK6' := Lib.hid hOK6; clear hO6 hF6 hOK6) | (at_builtin; refine wpList_app rfl _ _ 42 rfl wx.heap.size 50 si sz 2 16 Try.underlying42 si1 si2 si3 si4 si5 A7 (.slice vo n0 vc) n0 _ rfl B1.out (.slice (some ⟨wb.heap.size, 0, none⟩) 1 1) 1 _ rfl B2.out B3.out B4 B5 B6 ?_; intro v2 w5 ho5 hg5; obtain ⟨vo2, vc2, rfl⟩ := Src.form (Src.own ho5); have hfz := Lib.hid (show Far (fun _ => False) wx w5 from (hfb.out.then (alloc_far0 _ _)).out (grown_far hg5) fun i hi e => by { have := (World.ownsRow.lt hO1.out i e).1; omega }); have hK5 := Lib.hid (show Body w5 (.slice vo2 (n0 + 1) vc2) (kp ++ [(false, (k : Int))]) from (by have h9 := Src.own ho5; unfold Body; rw [List.length_append, scells_app, ← hn0'.out]; exact h9)); have IH := Lib.hid (fun bv (hbv : Body w5 bv bd) (hcv : Capd bv) => left_any S E gR B0 hd hS bd (kp ++ [(false, (k : Int))]) (.slice ao L.length ac) (.slice vo2 (n0 + 1) vc2) bv L w5 (hLw.out.move hfz.out) hK5.out hbv hcv (Bk.far' hRw.out hfz.out id) (Nat.le_trans hBw.out hfz.out.size) hsy'.out hnM.out hLM.out (by rw [List.length_append, ← hn0'.out, ← hn1'.out]; simp only [List.length_cons, List.length_nil]; omega)); have hT5 := Lib.hid (hBw2.out.move hfz.out); clear ho5 hg5) | (at_builtin; rw [← hkx'.out, ← hwx'.out]; refine wpList_app rfl _ _ 42 rfl wx.heap.size 50 si sz 2 16 Try.underlying42 si1 si2 si3 si4 si5 A7 _ 0 _ rfl (World.ownsRow_nil wx wx.heap.size 50 2) (.slice ko n0 kc) n0 _ rfl A2w.out A3.out A4 A5 (Nat.le_refl _) ?_; intro v1 wb ho1 hg1; rw [Nat.zero_add, List.nil_append] at ho1; obtain ⟨vo, vc, rfl⟩ := Src.form (Src.own ho1); have hfb := Lib.hid (show Far (fun _ => False) wx wb from (Far.refl _ wx).grown hg1 (fun k _ e => by cases e)); have x0 : wb.cell? ⟨kx, 0, none⟩ = some (.bool false) := (hXw.out.far' hfb.out id).cell 0; have x1 : wb.cell? ⟨kx, 1, none⟩ = some (.int .i64 (k : Int)) := (hXw.out.far' hfb.out id).cell 1; have hO1 := Lib.hid ho1; have B1 := Lib.hid (World.ownsRow.alloc ho1 (.cells #[.bool false, .int .i64 (k : Int)] 50)); have B2 := Lib.hid (src_new wb 50 [.bool false, .int .i64 (k : Int)]); have B3 := Lib.hid (show ∀ u ∈ [(.bool false : Value), .int .i64 (k : Int)], u.oneCell' = true by simp [Value.oneCell']); have B4 : n0 + 1 ≤ maxLen := (by unfold maxLen; omega); have B5 : (n0 + 1) * 16 ≤ 140737488355328 := (by omega); have B6 : wx.heap.size ≤ (wb.alloc (.cells #[.bool false, .int .i64 (k : Int)] 50)).heap.size := Nat.le_trans hfb.out.size (alloc_far0 _ _).size; clear ho1 hg1))
        all_goals
          go_ret
          exact ⟨_, L6, rfl, hO6'.out, (hfx.out.then hfz.out).then hF6'.out, left_stay hgs.out hOK6'.out⟩
end
end Go.Proofs.Ytjkfieilaahejaa
