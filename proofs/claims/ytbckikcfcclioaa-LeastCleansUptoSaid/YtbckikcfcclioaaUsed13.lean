/-
  Used: the program's.
-/
import Derived.Test.YtbckikcfcclioaaMadeE13
namespace Go.Proofs.Ytbckikcfcclioaa
open Go.RowKit
set_option linter.unusedVariables false
set_option linter.unusedSimpArgs false
/-- What a body's nonterminals are. -/
def InB (l : List Sy) (k : Nat) : Prop := ∃ x ∈ l, x.1 = false ∧ x.2.toNat = k
def ClosedU (T : List Tr) (U : Nat → Bool) : Prop := ∀ t ∈ T, U t.1.toNat = true → ∀ k, InB t.2.2 k → U k = true
/-- U is within every closed set that has F. -/
def LeastU (T : List Tr) (F : Nat → Prop) (U : Nat → Bool) : Prop := ∀ C, ClosedU T C → (∀ k, F k → C k = true) → ∀ k, U k = true → C k = true
def UP1 (gR S : Nat) (U : Nat → Bool) (h : Nat) (l : List Sy) (w : World) (e : Ending) (w' : World) : Prop := Far (fun k => k = gR) w w' ∧
  ((e = .returned (.bool false) ∧ BRow w' gR S U ∧ (U h = true → ∀ k, InB l k → U k = true)) ∨
   (∃ U', e = .returned (.bool true) ∧ BRow w' gR S U' ∧ muE S U' < muE S U ∧ (∀ k, U k = true → U' k = true) ∧ U h = true ∧ ∀ k, U' k = true → U k = true ∨ InB l k))
section
set_option maxHeartbeats 4000000
set_option maxRecDepth 100000
theorem used1_any (S gR kL : Nat) (U : Nat → Bool) (h : Nat) (v : Value) (l : List Sy) (w : World) (hB : ∀ w', Far (fun k => k = gR) w w' → Body w' v l) (hl : l.length ≤ maxLen) (hR : BRow w gR S U) (hs : ∀ x ∈ l, SymIn S x) (hSm : S ≤ 1024) (hh : h < S) (hI : Bk w kL 25 #[.slice (some ⟨gR, 0, none⟩) S S]) :
    Calls Try.prog 40 #[.agg #[.int .i64 (h : Int), v], .pointer (some ⟨kL, 0, none⟩)] w fun e w' => UP1 gR S U h l w e w' := by
  unfold maxLen at hl
  obtain ⟨bo, bc, rfl⟩ := Src.form (hB w (Far.refl _ _))
  obtain ⟨ax, hax⟩ : ∃ ax, ax = w.heap.size := ⟨_, rfl⟩
  obtain ⟨wa, hwa⟩ : ∃ wa, wa = w.alloc (.cells #[.int .i64 (h : Int), .slice bo l.length bc] 36) := ⟨_, rfl⟩
  have hfa : Far (fun _ => False) w wa := hwa ▸ alloc_far0 _ _
  have hX : Bk wa ax 36 #[.int .i64 (h : Int), .slice bo l.length bc] := hwa ▸ Bk.new hax
  have hRa : BRow wa gR S U := Bk.far' hR hfa id
  have hIa := hI.far' hfa id
  have x1 : wa.cell? ⟨ax, 1, none⟩ = some (.slice bo l.length bc) := hX.cell 1
  have hhI : (h : Int) < (S : Int) := by omega
  have hgax : ax ≠ gR := by have := Bk.lt hR; omega
  have hgk : kL ≠ gR := fun e => bk_ne hRa hIa (by decide) e.symm
  have hfg := hfa.mono (G := fun k => k = gR) fun _ _ h => h.elim
  have hB' := Lib.hid (fun wr (hf : Far (fun k => k = gR) wa wr) => hB wr (hfg.trans hf fun _ _ h => h))
  have hX' := Lib.hid hX
  have hRa' : Hid (BRow wa gR S U) := Lib.hid hRa
  have hIa' := Lib.hid hIa
  have hfg' := Lib.hid hfg
  have hs' := Lib.hid hs
  have hax' := Lib.hid hax
  have hwa' := Lib.hid hwa
  clear hB hR hs hI hax hwa hfa hX hRa hIa hfg
  go_enter Try.func40, Try.ntmps40
  go_upto_region 1 with fail
  rw [← hax'.out, ← hwa'.out]
  go_wp2_with fail
  clear x1
  go_loopw [4, 10] (fun mv iv wr => ∃ (b : Bool) (i : Nat) (U1 : Nat → Bool), mv = .bool b ∧ iv = .int .i64 i ∧ i ≤ l.length ∧ Hid (BRow wr gR S U1) ∧ Far (fun k => k = gR) wa wr ∧ Hid ((∀ k, U k = true → U1 k = true) ∧ (∀ k, U1 k = true → U k = true ∨ (U h = true ∧ InB l k)) ∧ (b = false → U1 = U) ∧ (b = true → muE S U1 < muE S U ∧ U h = true) ∧ (U h = true → ∀ k, InB (l.take i) k → U1 k = true))) (fun _ iv _ => l.length - (intOf iv).toNat)
  case atStart => exact ⟨false, 0, U, rfl, rfl, Nat.zero_le _, hRa', Far.refl _ _, Lib.hid ⟨fun _ h => h, fun _ h => .inl h, fun _ => rfl, fun h => (by cases h), fun _ k hk => by obtain ⟨x, hx, _⟩ := hk; simp at hx⟩⟩
  case round =>
    obtain ⟨b, i, U1, rfl, rfl, hi, hr, hfw, hc⟩ := hrel
    by_cases hlt : i < l.length
    · have e1 : decide ((i : Int) < (l.length : Int)) = true := by rw [decide_eq_true_eq]; omega
      have hii : (i : Int) < (l.length : Int) := by omega
      obtain ⟨x, hx⟩ : ∃ x, l[i]? = some x := ⟨l[i], List.getElem?_eq_getElem hlt⟩
      obtain ⟨bb, off, c, he, hbl, c0, c1⟩ := (hB'.out wr hfw).sym hx
      simp only [Value.slice.injEq] at he
      obtain ⟨rfl, _, rfl⟩ := he
      have hmem := List.mem_of_getElem? hx
      have hsx := hs'.out x hmem
      have htk : ∀ k, InB (l.take (i + 1)) k ↔ InB (l.take i) k ∨ (x.1 = false ∧ x.2.toNat = k) := fun k => by
        obtain ⟨h1, h2⟩ := List.getElem?_eq_some_iff.1 hx
        unfold InB
        rw [List.take_succ_eq_append_getElem h1, h2]
        constructor
        · rintro ⟨y, hy, hy2⟩
          rcases List.mem_append.1 hy with h3 | h3
          · exact .inl ⟨y, h3, hy2⟩
          · rw [List.mem_singleton.1 h3] at hy2; exact .inr hy2
        · rintro (⟨y, hy, hy2⟩ | hy2)
          · exact ⟨y, List.mem_append.2 (.inl hy), hy2⟩
          · exact ⟨x, List.mem_append.2 (.inr (by simp)), hy2⟩
      obtain ⟨sx, hsxk⟩ : ∃ k, k = wr.heap.size := ⟨_, rfl⟩
      obtain ⟨w1, hw1⟩ : ∃ w1, w1 = wr.alloc (.cells #[.bool x.1, .int .i64 x.2] 56) := ⟨_, rfl⟩
      have hf1 : Far (fun _ => False) wr w1 := hw1 ▸ alloc_far0 _ _
      have hS1 : Bk w1 sx 56 #[.bool x.1, .int .i64 x.2] := hw1 ▸ Bk.new hsxk
      have hR1 : Hid (BRow w1 gR S U1) := Lib.hid (Bk.far' hr.out hf1 id)
      have y0 : w1.cell? ⟨sx, 0, none⟩ = some (.bool x.1) := hS1.cell 0
      have y1 : w1.cell? ⟨sx, 1, none⟩ = some (.int .i64 x.2) := hS1.cell 1
      have l0 : w1.cell? ⟨kL, 0, none⟩ = some (.slice (some ⟨gR, 0, none⟩) S S) := ((hIa'.out.far' hfw hgk).far' hf1 id).cell 0
      have p0 : w1.cell? ⟨ax, 0, none⟩ = some (.int .i64 (h : Int)) := ((hX'.out.far' hfw hgax).far' hf1 id).cell 0
      have r0 : w1.cell? ⟨gR, h, none⟩ = some (.bool (U1 h)) := IRow_at hR1.out hh
      have hne : sx ≠ gR := by have := Bk.lt hr.out; omega
      have hfw1 := Lib.hid (hfw.trans hf1 fun _ _ h => h.elim)
      have hsxk' := Lib.hid hsxk
      have htk' := Lib.hid htk
      have hmem' := Lib.hid hmem
      obtain ⟨xb, xk⟩ := x
      dsimp only at c0 c1 y0 y1 hw1
      have hw1' := Lib.hid hw1
      clear hx hbl hmem htk hr hfw hsxk hw1 hf1 hS1
      by_cases hU : U1 h = true
      · rw [hU] at r0
        cases xb with
        | true =>
          have hc2 := Lib.hid (show (∀ k, U k = true → U1 k = true) ∧ (∀ k, U1 k = true → U k = true ∨ (U h = true ∧ InB l k)) ∧ (b = false → U1 = U) ∧ (b = true → muE S U1 < muE S U ∧ U h = true) ∧ (U h = true → ∀ k, InB (l.take (i + 1)) k → U1 k = true) from ⟨hc.out.1, hc.out.2.1, hc.out.2.2.1, hc.out.2.2.2.1, fun q k hk => ((htk'.out k).1 hk).elim (hc.out.2.2.2.2 q k) (fun q2 => by cases q2.1)⟩)
          clear hc hsx hU
          go_upto_region 5 with fail
          rw [← hsxk'.out, ← hw1'.out]
          clear c0 c1
          go_wp2_with fail
          go_roundw
          case rel => exact ⟨b, i + 1, U1, rfl, by go_num, by omega, hR1, hfw1.out, hc2⟩
          case measure => simp [intOf]; omega
        | false =>
          obtain ⟨hk0, hkS⟩ := hsx rfl
          dsimp only at hk0 hkS
          obtain ⟨kn, rfl⟩ : ∃ kn : Nat, xk = (kn : Int) := ⟨xk.toNat, by omega⟩
          have hkn : kn < S := by omega
          have r1 : w1.cell? ⟨gR, kn, none⟩ = some (.bool (U1 kn)) := IRow_at hR1.out hkn
          have r2 : w1.frozen? ⟨gR, kn, none⟩ = false := Bk.free hR1.out kn
          by_cases hV : U1 kn = true
          · rw [hV] at r1
            have hc2 := Lib.hid (show (∀ k, U k = true → U1 k = true) ∧ (∀ k, U1 k = true → U k = true ∨ (U h = true ∧ InB l k)) ∧ (b = false → U1 = U) ∧ (b = true → muE S U1 < muE S U ∧ U h = true) ∧ (U h = true → ∀ k, InB (l.take (i + 1)) k → U1 k = true) from ⟨hc.out.1, hc.out.2.1, hc.out.2.2.1, hc.out.2.2.2.1, fun q k hk => ((htk'.out k).1 hk).elim (hc.out.2.2.2.2 q k) (fun q2 => by have := q2.2; dsimp only at this; rw [Int.toNat_natCast] at this; subst this; exact hV)⟩)
            clear hc hsx hU hV
            go_upto_region 5 with fail
            rw [← hsxk'.out, ← hw1'.out]
            clear c0 c1
            go_wp2_with fail
            go_roundw
            case rel => exact ⟨b, i + 1, U1, rfl, by go_num, by omega, hR1, hfw1.out, hc2⟩
            case measure => simp [intOf]; omega
          · have hV0 : U1 kn = false := by simpa using hV
            rw [hV0] at r1
            have hUh : U h = true := ((hc.out.2.1 h hU).elim id (fun q => q.1))
            have hlt2 : muE S (updG U1 kn true) < muE S U := by
              have := muE_lt hkn hV0
              cases hb : b with
              | false => rw [hc.out.2.2.1 hb] at this ⊢; exact this
              | true => have := (hc.out.2.2.2.1 hb).1; omega
            have hup : ∀ k, updG U1 kn true k = true ↔ (k = kn ∨ U1 k = true) := fun k => by
              unfold updG
              split
              · rename_i e; simp [e]
              · rename_i e; simp [e]
            have hc2 := Lib.hid (show (∀ k, U k = true → updG U1 kn true k = true) ∧ (∀ k, updG U1 kn true k = true → U k = true ∨ (U h = true ∧ InB l k)) ∧ (true = false → updG U1 kn true = U) ∧ (true = true → muE S (updG U1 kn true) < muE S U ∧ U h = true) ∧ (U h = true → ∀ k, InB (l.take (i + 1)) k → updG U1 kn true k = true) from
              ⟨fun k q => (hup k).2 (.inr (hc.out.1 k q)), fun k q => ((hup k).1 q).elim (fun e => .inr ⟨hUh, _, hmem'.out, rfl, by dsimp only; rw [Int.toNat_natCast]; exact e.symm⟩) (hc.out.2.1 k), fun q => (by cases q), fun _ => ⟨hlt2, hUh⟩,
               fun q k hk => (hup k).2 (((htk'.out k).1 hk).elim (fun q3 => .inr (hc.out.2.2.2.2 q k q3)) (fun q2 => .inl (by have := q2.2; dsimp only at this; rw [Int.toNat_natCast] at this; exact this.symm)))⟩)
            have R5 : Hid (BRow (w1.setCell ⟨gR, kn, none⟩ (.bool true)) gR S (updG U1 kn true)) := Lib.hid (BRow.put hR1.out kn true)
            have F5 := Lib.hid (hfw1.out.set ⟨gR, kn, none⟩ (.bool true) (fun _ => rfl))
            clear hc hsx hU hV hV0 hup hUh hlt2
            go_upto_region 5 with fail
            rw [← hsxk'.out, ← hw1'.out]
            clear c0 c1
            go_wp2_with fail
            go_roundw
            case rel => exact ⟨true, i + 1, updG U1 kn true, rfl, by go_num, by omega, R5, F5.out, hc2⟩
            case measure => simp [intOf]; omega
      · have hU0 : U1 h = false := by simpa using hU
        rw [hU0] at r0
        have hnU : ¬ U h = true := fun q => hU (hc.out.1 h q)
        have hc2 := Lib.hid (show (∀ k, U k = true → U1 k = true) ∧ (∀ k, U1 k = true → U k = true ∨ (U h = true ∧ InB l k)) ∧ (b = false → U1 = U) ∧ (b = true → muE S U1 < muE S U ∧ U h = true) ∧ (U h = true → ∀ k, InB (l.take (i + 1)) k → U1 k = true) from ⟨hc.out.1, hc.out.2.1, hc.out.2.2.1, hc.out.2.2.2.1, fun q => absurd q hnU⟩)
        clear hc hsx hU hU0 hnU
        go_upto_region 5 with fail
        rw [← hsxk'.out, ← hw1'.out]
        clear c0 c1
        go_wp2_with fail
        go_roundw
        case rel => exact ⟨b, i + 1, U1, rfl, by go_num, by omega, hR1, hfw1.out, hc2⟩
        case measure => simp [intOf]; omega
    · have e1 : decide ((i : Int) < (l.length : Int)) = false := by rw [decide_eq_false_iff_not]; omega
      have hin : i = l.length := by omega
      have hfw' := Lib.hid (hfg'.out.trans hfw fun _ _ h => h)
      cases b with
      | false =>
        have hUU := hc.out.2.2.1 rfl
        subst hUU
        have hfin := Lib.hid (show U1 h = true → ∀ k, InB l k → U1 k = true from fun q k hk => hc.out.2.2.2.2 q k (by rw [hin, List.take_length]; exact hk))
        clear hc hfw
        go_wp2_with fail
        go_ret
        exact (show UP1 gR S U1 h l w _ _ from ⟨hfw'.out, .inl ⟨rfl, hr.out, hfin.out⟩⟩)
      | true =>
        have hfin := Lib.hid (show muE S U1 < muE S U ∧ (∀ k, U k = true → U1 k = true) ∧ U h = true ∧ ∀ k, U1 k = true → U k = true ∨ InB l k from ⟨(hc.out.2.2.2.1 rfl).1, hc.out.1, (hc.out.2.2.2.1 rfl).2, fun k q => (hc.out.2.1 k q).imp id And.right⟩)
        clear hc hfw
        go_wp2_with fail
        go_ret
        exact (show UP1 gR S U h l w _ _ from ⟨hfw'.out, .inr ⟨U1, rfl, hr.out, hfin.out⟩⟩)
end
end Go.Proofs.Ytbckikcfcclioaa
