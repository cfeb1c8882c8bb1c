/-
  QJoinD: QJoinD, QDmBox.
-/
import Derived.Test.YtjolkhiggcmoiaaGreatDoorQDoc
import Derived.Test.YtjolkhiggcmoiaaGreatDoorQHas
/-! ## QJoinD: The document's Join of two matrices. -/
namespace Go.Proofs.YtjolkhiggcmoiaaGreatDoor
open Go.RowKit Go.Shelf
set_option linter.unusedVariables false
set_option linter.unusedSimpArgs false
def pairE (a b : Nat) : Nat := if a = 0 ∨ b = 0 then 1 else if a = b then 0 else 5
theorem nat_beq0 {a : Nat} (h : a ≠ 0) : ((a : Int) == 0) = false := by simp; omega
theorem nat_bne {a b : Nat} (h : a ≠ b) : ((a : Int) != (b : Int)) = true ∧ ((a : Int) == (b : Int)) = false ∧ ¬ (a : Int) = (b : Int) := by simp; omega
section
set_option maxHeartbeats 4000000
set_option maxRecDepth 100000
theorem rpair_any (w : World) (sa sb : Nat) (aoa : Option Addr) (na ca : Nat) (aob : Option Addr) (nb cb : Nat) : Calls Tryz.prog 116 #[.agg #[.int .i64 (sa : Nat), .slice aoa na ca], .agg #[.int .i64 (sb : Nat), .slice aob nb cb]] w fun e w' => e = .returned (.int .i64 (pairE sa sb : Nat)) ∧ Far (fun _ => False) w w' := by
  obtain ⟨h2, hh2⟩ : ∃ h, h = w.heap.size := ⟨_, rfl⟩
  obtain ⟨h3, hh3⟩ : ∃ h, h = h2 + 1 := ⟨_, rfl⟩
  obtain ⟨W0, hW0⟩ : ∃ V, V = (w.alloc (.cells #[.int .i64 (sa : Nat), .slice aoa na ca] 27)).alloc (.cells #[.int .i64 (sb : Nat), .slice aob nb cb] 27) := ⟨_, rfl⟩
  have hF0 := Lib.hid (show Far (fun _ => False) w W0 from hW0 ▸ ((Far.refl _ w).alloc _).alloc _)
  have hB2 : Bk W0 h2 27 #[.int .i64 (sa : Nat), .slice aoa na ca] := hW0 ▸ (Bk.new hh2).alloc _
  have hB3 : Bk W0 h3 27 #[.int .i64 (sb : Nat), .slice aob nb cb] := hW0 ▸ Bk.new (by simp [hh3, hh2])
  have c2 : W0.cell? ⟨h2, 0, none⟩ = some (.int .i64 (sa : Nat)) := hB2.cell 0
  have c3 : W0.cell? ⟨h3, 0, none⟩ = some (.int .i64 (sb : Nat)) := hB3.cell 0
  have hh2' := Lib.hid hh2
  have hh3' := Lib.hid hh3
  have hW0' := Lib.hid hW0
  clear hh2 hh3 hW0 hB2 hB3
  unfold pairE
  by_cases ha : sa = 0
  · rw [if_pos (.inl ha)]
    have a0 : ((sa : Int) == 0) = true := by simp; omega
    clear ha
    go_enter Tryz.func116, Tryz.ntmps116
    go_upto_region 1 with fail
    rw [← hh2'.out, ← hh3'.out, ← hW0'.out]
    go_wp2_with fail
    go_ret
    exact ⟨rfl, hF0.out⟩
  · by_cases hb : sb = 0
    · rw [if_pos (.inr hb)]
      have b0 : ((sb : Int) == 0) = true := by simp; omega
      have a0 := nat_beq0 ha
      clear ha hb
      go_enter Tryz.func116, Tryz.ntmps116
      go_upto_region 1 with fail
      rw [← hh2'.out, ← hh3'.out, ← hW0'.out]
      go_wp2_with fail
      go_ret
      exact ⟨rfl, hF0.out⟩
    · rw [if_neg (by omega)]
      have a0 := nat_beq0 ha
      have b0 := nat_beq0 hb
      by_cases hab : sa = sb
      · rw [if_pos hab]
        subst hab
        clear ha hb
        go_enter Tryz.func116, Tryz.ntmps116
        go_upto_region 1 with fail
        rw [← hh2'.out, ← hh3'.out, ← hW0'.out]
        go_wp2_with fail
        go_ret
        exact ⟨rfl, hF0.out⟩
      · rw [if_neg hab]
        obtain ⟨n1, n2, n3⟩ := nat_bne hab
        clear ha hb hab
        go_enter Tryz.func116, Tryz.ntmps116
        go_upto_region 1 with fail
        rw [← hh2'.out, ← hh3'.out, ← hW0'.out]
        go_wp2_with fail
        go_ret
        exact ⟨rfl, hF0.out⟩
theorem rjoin_any {w : World} {va vb : Value} {sa sb : Nat} {A B : Nat → Nat → Bool} (ha : Dm w va sa A) (hb : Dm w vb sb B) : Calls Tryz.prog 84 #[va, vb] w fun e w' => ∃ (v : Value) (mo : Bool), e = .returned (.tuple #[v, .bool mo, .int .i64 (pairE sa sb : Nat)]) ∧ Dm w' v sa (if pairE sa sb = 0 then joinM A B else A) ∧ (mo = true ↔ pairE sa sb = 0 ∧ ∃ r c, B r c = true ∧ A r c = false) ∧ (v = va ∨ Dn v w.heap.size) ∧ Far (fun _ => False) w w' := by
  have hlenA := ha.len
  have hlenB := hb.len
  have haD := Lib.hid ha
  obtain ⟨aoa, ca, rfl, hPa, hca, hsa, hwa⟩ := ha
  obtain ⟨aob, cb, rfl, hPb, hcb, hsb, hwb⟩ := hb
  have hmA : ∀ x : Nat × Nat, x ∈ cellsL A sa ↔ A x.1 x.2 = true := fun x => mem_cellsL hwa
  have hmB : ∀ x : Nat × Nat, x ∈ cellsL B sb ↔ B x.1 x.2 = true := fun x => mem_cellsL hwb
  have hrA := cellsK_rise A sa sa
  have hrB := cellsK_rise B sb sb
  change (cellsL A sa).Pairwise lexLt at hrA
  change (cellsL B sb).Pairwise lexLt at hrB
  obtain ⟨LA, hLA⟩ : ∃ L, cellsL A sa = L := ⟨_, rfl⟩
  obtain ⟨LB, hLB⟩ : ∃ L, cellsL B sb = L := ⟨_, rfl⟩
  rw [hLA] at hPa hca hlenA hmA hrA haD ⊢
  rw [hLB] at hPb hcb hlenB hmB hrB ⊢
  obtain ⟨na, hna⟩ : ∃ n, LA.length = n := ⟨_, rfl⟩
  obtain ⟨nb, hnb⟩ : ∃ n, LB.length = n := ⟨_, rfl⟩
  rw [hna] at hca hlenA haD ⊢
  rw [hnb] at hcb hlenB ⊢
  obtain ⟨h2, hh2⟩ : ∃ h, h = w.heap.size := ⟨_, rfl⟩
  obtain ⟨h3, hh3⟩ : ∃ h, h = h2 + 1 := ⟨_, rfl⟩
  obtain ⟨h4, hh4⟩ : ∃ h, h = h3 + 1 := ⟨_, rfl⟩
  obtain ⟨W0, hW0⟩ : ∃ V, V = ((w.alloc (.cells #[.int .i64 (sa : Nat), .slice aoa na ca] 27)).alloc (.cells #[.int .i64 (sb : Nat), .slice aob nb cb] 27)).alloc (.cells #[.int .i64 0, .slice none 0 0] 27) := ⟨_, rfl⟩
  have hF0 : Far (fun _ => False) w W0 := hW0 ▸ (((Far.refl _ w).alloc _).alloc _).alloc _
  have hB2 : Bk W0 h2 27 #[.int .i64 (sa : Nat), .slice aoa na ca] := hW0 ▸ ((Bk.new hh2).alloc _).alloc _
  have hB3 : Bk W0 h3 27 #[.int .i64 (sb : Nat), .slice aob nb cb] := hW0 ▸ (Bk.new (by simp [hh3, hh2])).alloc _
  have hB4 : Bk W0 h4 27 #[.int .i64 0, .slice none 0 0] := hW0 ▸ Bk.new (by simp [hh4, hh3, hh2])
  have n42 : h4 ≠ h2 := by omega
  have n43 : h4 ≠ h3 := by omega
  have HB := Lib.hid (show ∀ V, Far (fun _ => False) W0 V → (V.cell? ⟨h2, 0, none⟩ = some (.int .i64 (sa : Nat)) ∧ V.cell? ⟨h2, 1, none⟩ = some (.slice aoa na ca) ∧ V.cell? ⟨h3, 0, none⟩ = some (.int .i64 (sb : Nat)) ∧ V.cell? ⟨h3, 1, none⟩ = some (.slice aob nb cb)) ∧ V.cell? ⟨h4, 0, none⟩ = some (.int .i64 0) ∧ V.cell? ⟨h4, 1, none⟩ = some (.slice none 0 0) ∧ V.frozen? ⟨h4, 0, none⟩ = false ∧ V.frozen? ⟨h4, 1, none⟩ = false from fun V hf => ⟨⟨(hB2.far' hf id).cell 0, (hB2.far' hf id).cell 1, (hB3.far' hf id).cell 0, (hB3.far' hf id).cell 1⟩, (hB4.far' hf id).cell 0, (hB4.far' hf id).cell 1, (hB4.far' hf id).free 0, (hB4.far' hf id).free 1⟩)
  have PR := rpair_any W0 sa sb aoa na ca aob nb cb
  obtain ⟨⟨z20, z21, z30, z31⟩, _⟩ := HB.out W0 (Far.refl _ _)
  have hPa' := Lib.hid (hPa.move hF0)
  have hPb' := Lib.hid (hPb.move hF0)
  have hLA' := Lib.hid hLA
  have hna' := Lib.hid hna
  have hnb' := Lib.hid hnb
  have hmA' := Lib.hid hmA
  have hmB' := Lib.hid hmB
  have hrA' := Lib.hid hrA
  have hrB' := Lib.hid hrB
  have hwa' := Lib.hid hwa
  have hwb' := Lib.hid hwb
  have hW0' := Lib.hid hW0
  have hF0' := Lib.hid hF0
  have hB4' := Lib.hid hB4
  have e2 := Lib.hid hh2
  have e3 := Lib.hid hh3
  have e4 := Lib.hid hh4
  have hlo := Lib.hid (show w.heap.size ≤ h4 by omega)
  clear hPa hPb hLA hLB hna hnb hwa hwb hmA hmB hrA hrB hW0 hF0 hB2 hB3 hB4 hh2 hh3 hh4
  by_cases hE : pairE sa sb = 0
  · have hss : sa ≠ 0 ∧ sa = sb := by
      unfold pairE at hE
      split at hE
      · cases hE
      · split at hE
        · omega
        · cases hE
    obtain ⟨h0, rfl⟩ := hss
    rw [hE] at PR ⊢
    rw [if_pos rfl]
    clear hE h0
    go_enter Tryz.func84, Tryz.ntmps84
    go_upto_region 1 with fail
    rw [← e2.out, ← e3.out, ← e4.out, ← hW0'.out]
    go_wp2_with fail
    refine PR.mono ?_
    rintro e W1 ⟨rfl, hf1⟩
    obtain ⟨⟨y20, y21, y30, y31⟩, _⟩ := HB.out W1 hf1
    have MG := merge_any LA LB hrA'.out hrB'.out na nb hna'.out.symm hnb'.out.symm (by omega) aoa aob ca cb W1 (hPa'.out.move hf1) (hPb'.out.move hf1)
    have hf1' := Lib.hid hf1
    clear PR hf1 z20 z21 z30 z31
    go_wp2_with fail
    refine MG.mono ?_
    rintro e W2 ⟨v, mo, rfl, o, hown, hr, hm, hmo, hlen, hf2⟩
    obtain ⟨vo, vc, rfl⟩ := q_form hown
    obtain ⟨⟨x20, x21, x30, x31⟩, x40, x41, fr0, fr1⟩ := HB.out W2 (hf1'.out.then hf2)
    obtain ⟨n, hn⟩ : ∃ n, n = o.length := ⟨_, rfl⟩
    rw [← hn] at hown ⊢
    have hn' := Lib.hid hn
    have hown' := Lib.hid hown
    have hr' := Lib.hid hr
    have hm' := Lib.hid hm
    have hmo' := Lib.hid hmo
    have hf2' := Lib.hid hf2
    clear MG hown hr hm hmo hlen hf2 hn y20 y21 y30 y31
    go_wp2_with fail
    (try simp only [Exit.inBlock, Exit.then])
    have hB9 := hB4'.out.far' (hf1'.out.then hf2'.out) id
    obtain ⟨w7, hw7⟩ : ∃ V, V = (W2.setCell ⟨h4, 0, none⟩ (.int .i64 (sa : Nat))).setCell ⟨h4, 1, none⟩ (.slice vo n vc) := ⟨_, rfl⟩
    have hB7 : Bk w7 h4 27 #[.int .i64 (sa : Nat), .slice vo n vc] := hw7 ▸ (hB9.set 0 _).set 1 _
    have hf67 : Far (fun q => q = h4) W2 w7 := hw7 ▸ ((Far.refl (fun q => q = h4) W2).set ⟨h4, 0, none⟩ _ fun _ => rfl).set ⟨h4, 1, none⟩ _ fun _ => rfl
    have hf7 : Far (fun _ => False) w w7 := (hF0'.out.then (hf1'.out.then hf2'.out)).trans hf67 fun q hq e => by have := hlo.out; omega
    have c0 : w7.cell? ⟨h4, 0, none⟩ = some (.int .i64 (sa : Nat)) := hB7.cell 0
    have c1 : w7.cell? ⟨h4, 1, none⟩ = some (.slice vo n vc) := hB7.cell 1
    have ho7 := row_same hown'.out fun q hq hl => hf67.block q hl fun e => by
      obtain ⟨_, _, cs, hb2⟩ := own_type hown'.out hq
      rw [e] at hb2
      have := bk_type hb2 hB9
      revert this; decide
    have hD : Dm w7 (.agg #[.int .i64 (sa : Nat), .slice vo n vc]) sa (joinM A B) := Dm.own hsa (fun r c h => by
      unfold joinM at h
      rw [Bool.or_eq_true] at h
      exact h.elim (hwa'.out r c) (hwb'.out r c)) hr'.out (fun x => by
        unfold joinM
        rw [hm'.out x, hmA'.out x, hmB'.out x, Bool.or_eq_true]) ho7 hn'.out
    have hDn7 : Dn (.agg #[.int .i64 (sa : Nat), .slice vo n vc]) w.heap.size := fun _ _ _ _ e a ha => by
      cases e
      subst ha
      obtain ⟨h1, _⟩ := own_type hown'.out (k := a.block) rfl
      have := (hF0'.out.then hf1'.out).size
      omega
    have hmoo : mo = true ↔ (0 : Nat) = 0 ∧ ∃ r c, B r c = true ∧ A r c = false := by
      rw [hmo'.out]
      constructor
      · rintro ⟨x, h1, h2⟩
        refine ⟨rfl, x.1, x.2, (hmB'.out x).1 h1, ?_⟩
        cases h : A x.1 x.2 with
        | false => rfl
        | true => exact absurd ((hmA'.out x).2 h) h2
      · rintro ⟨_, r, c, h1, h2⟩
        refine ⟨(r, c), (hmB'.out (r, c)).2 h1, fun h => ?_⟩
        have := (hmA'.out (r, c)).1 h
        rw [h2] at this
        cases this
    rw [← hw7]
    exact bodyPost_ret (v := .tuple #[.agg #[.int .i64 (sa : Nat), .slice vo n vc], .bool mo, .int .i64 0]) (by simp [results, Tryz.f84, go_sem, c0, c1]) rfl ⟨_, _, rfl, hD, ⟨fun h => ⟨trivial, (hmoo.1 h).2⟩, fun h => hmoo.2 ⟨rfl, h.2⟩⟩, .inr hDn7, hf7⟩
  · obtain ⟨E, hEE⟩ : ∃ E, pairE sa sb = E := ⟨_, rfl⟩
    rw [hEE] at PR hE ⊢
    rw [if_neg hE]
    have E0 := nat_beq0 hE
    have E1 : ((E : Int) != 0) = true := by simp; omega
    have E2 : ¬ (E : Int) = 0 := by omega
    have hE' := Lib.hid hE
    clear hEE hE
    go_enter Tryz.func84, Tryz.ntmps84
    go_upto_region 1 with fail
    rw [← e2.out, ← e3.out, ← e4.out, ← hW0'.out]
    go_wp2_with fail
    refine PR.mono ?_
    rintro e W1 ⟨rfl, hf1⟩
    obtain ⟨⟨y20, y21, y30, y31⟩, x40, x41, fr0, fr1⟩ := HB.out W1 hf1
    have hf1' := Lib.hid hf1
    clear PR hf1 z20 z21 z30 z31
    go_wp2_with fail
    (try simp only [Exit.inBlock, Exit.then])
    have hB9 := hB4'.out.far' hf1'.out id
    obtain ⟨w7, hw7⟩ : ∃ V, V = (W1.setCell ⟨h4, 0, none⟩ (.int .i64 (sa : Nat))).setCell ⟨h4, 1, none⟩ (.slice aoa na ca) := ⟨_, rfl⟩
    have hB7 : Bk w7 h4 27 #[.int .i64 (sa : Nat), .slice aoa na ca] := hw7 ▸ (hB9.set 0 _).set 1 _
    have hf67 : Far (fun q => q = h4) W1 w7 := hw7 ▸ ((Far.refl (fun q => q = h4) W1).set ⟨h4, 0, none⟩ _ fun _ => rfl).set ⟨h4, 1, none⟩ _ fun _ => rfl
    have hf7 : Far (fun _ => False) w w7 := (hF0'.out.then hf1'.out).trans hf67 fun q hq e => by have := hlo.out; omega
    have c0 : w7.cell? ⟨h4, 0, none⟩ = some (.int .i64 (sa : Nat)) := hB7.cell 0
    have c1 : w7.cell? ⟨h4, 1, none⟩ = some (.slice aoa na ca) := hB7.cell 1
    rw [← hw7]
    exact bodyPost_ret (v := .tuple #[.agg #[.int .i64 (sa : Nat), .slice aoa na ca], .bool false, .int .i64 (E : Nat)]) (by simp [results, Tryz.f84, go_sem, c0, c1]) rfl ⟨_, _, rfl, haD.out.move hf7, ⟨fun h => (by cases h), fun h => absurd h.1 hE'.out⟩, .inl rfl, hf7⟩
end
end Go.Proofs.YtjolkhiggcmoiaaGreatDoor
/-! ## QDmBox: The document's matrices beside boxes and beside the program's. -/
namespace Go.Proofs.YtjolkhiggcmoiaaGreatDoor
open Go.RowKit Go.Shelf
set_option linter.unusedVariables false
set_option linter.unusedSimpArgs false
/-- A store to a box that holds such a matrix leaves every list alone. -/
theorem Dm.box {w w' : World} {v : Value} {s k t : Nat} {M : Nat → Nat → Bool} {x : Value} {o : Option Addr} {n c : Nat} (h : Dm w v s M) (hb : Bk w k t #[x, .slice o n c]) (hf : Far (fun q => q = k) w w') : Dm w' v s M := by
  obtain ⟨ao, cap, e, hp, r⟩ := h
  refine ⟨ao, cap, e, fun hn => ?_, r⟩
  obtain ⟨g, off, rfl, hg, hc⟩ := hp hn
  have hgk : ¬ g = k := fun e => by
    subst e
    obtain ⟨h0, h1⟩ := hc 0 hn
    have e1 : w.cell? ⟨g, off + 0 * 2 + 1, Option.none⟩ = (#[x, .slice o n c] : Array Value)[off + 0 * 2 + 1]? := hb.cell _
    rw [h1] at e1
    rcases off with _ | off
    · cases e1
    · have : (#[x, .slice o n c] : Array Value)[off + 1 + 0 * 2 + 1]? = Option.none := by simp
      rw [this] at e1
      cases e1
  have hbl := hf.block g hg hgk
  exact ⟨g, off, rfl, Nat.lt_of_lt_of_le hg hf.size, fun q hq => ⟨(cell_eq (p := ⟨g, off + q * 2, Option.none⟩) hbl).trans (hc q hq).1, (cell_eq (p := ⟨g, off + q * 2 + 1, Option.none⟩) hbl).trans (hc q hq).2⟩⟩
theorem Dm.far {w w' : World} {v : Value} {s b : Nat} {F : Nat → Prop} {M : Nat → Nat → Bool} (h : Dm w v s M) (hn : Dn v b) (hf : Far F w w') (hF : ∀ k, F k → k < b) : Dm w' v s M := by
  obtain ⟨ao, cap, e, hp, r⟩ := h
  exact ⟨ao, cap, e, hp.kept hf fun a ha _ hk => Nat.lt_irrefl _ (Nat.lt_of_lt_of_le (hF _ hk) (hn _ _ _ _ e a ha)), r⟩
/-- Where a matrix's list lies. -/
def Place (v : Value) (b u : Nat) : Prop := ∀ s ao n cap, v = .agg #[s, .slice ao n cap] → 0 < n → ∀ a, ao = some a → b ≤ a.block ∧ a.block < u
theorem Dm.place {w : World} {v : Value} {s b : Nat} {M : Nat → Nat → Bool} (h : Dm w v s M) (hn : Dn v b) : Place v b w.heap.size := fun s' ao n cap e h0 a ha => by
  refine ⟨hn _ _ _ _ e a ha, ?_⟩
  obtain ⟨ao', cap', e', hp, _⟩ := h
  rw [e] at e'
  cases e'
  obtain ⟨g, off, e2, hg, _⟩ := hp h0
  rw [ha] at e2
  cases e2
  exact hg
theorem Dm.pfar {w w' : World} {v : Value} {s b u : Nat} {F : Nat → Prop} {M : Nat → Nat → Bool} (h : Dm w v s M) (hp : Place v b u) (hf : Far F w w') (hF : ∀ k, F k → k < b ∨ u ≤ k) : Dm w' v s M := by
  obtain ⟨ao, cap, e, hq, r⟩ := h
  refine ⟨ao, cap, e, fun hn => ?_, r⟩
  obtain ⟨g, off, rfl, hg, hc⟩ := hq hn
  obtain ⟨p1, p2⟩ := hp _ _ _ _ e hn _ rfl
  have hgk : ¬ F g := fun hk => by
    have p1 : b ≤ g := p1
    have p2 : g < u := p2
    rcases hF g hk with h | h <;> omega
  have hbl := hf.block g hg hgk
  exact ⟨g, off, rfl, Nat.lt_of_lt_of_le hg hf.size, fun q hq => ⟨(cell_eq (p := ⟨g, off + q * 2, Option.none⟩) hbl).trans (hc q hq).1, (cell_eq (p := ⟨g, off + q * 2 + 1, Option.none⟩) hbl).trans (hc q hq).2⟩⟩
theorem HasF.notBk {w : World} {v : Value} {F : Nat → Prop} {s : Nat} {M : Nat → Nat → Bool} (h : HasF w v F s M) {k : Nat} {t : TypeId} {cs : Array Value} (hb : Bk w k t cs) (h1 : t ≠ 99) (h2 : t ≠ 142) (h3 : t ≠ 108) : ¬ F k := by
  rcases h with ⟨_, _, _, rfl⟩ | ⟨B, _, hX⟩
  · exact id
  · exact hX.notBk hb h1 h2 h3
end Go.Proofs.YtjolkhiggcmoiaaGreatDoor
