/-
  The packs of a spot: the document's word.
-/
import Derived.Test.YteoglnbmmgoibaaGreatDoorCopy22
namespace Go.Proofs.YteoglnbmmgoibaaGreatDoor
open Go.RowKit
set_option linter.unusedVariables false
set_option linter.unusedSimpArgs false
def ofSpot (P : List Pk) (s : Int) : List Pk := P.filter fun p => p.1 == s
theorem ofSpot_succ {P : List Pk} {i : Nat} {p : Pk} (h : P[i]? = some p) (s : Int) : ofSpot (P.take (i + 1)) s = ofSpot (P.take i) s ++ if p.1 == s then [p] else [] := by
  obtain ⟨hl, he⟩ := List.getElem?_eq_some_iff.1 h
  unfold ofSpot
  rw [List.take_succ_eq_append_getElem hl, he, List.filter_append]
  congr 1
  cases hp : p.1 == s <;> simp [hp]
theorem ofSpot_len (P : List Pk) (s : Int) : (ofSpot P s).length ≤ P.length := List.length_filter_le _ _
section
set_option maxHeartbeats 4000000
set_option maxRecDepth 100000
theorem packsOf_any (v pv : Value) (F : List Fc) (P : List Pk) (s : Int) (w : World) (hP : Facts w v F) (hQ : Packs w pv P) (hs2 : P.length * 40 ≤ 140737488351232) :
    Calls Tryz.prog 11 #[.agg #[v, pv], .int .i64 s] w fun e w' => (∃ ao c, e = .returned (.slice ao (ofSpot P s).length c) ∧ Packs w' (.slice ao (ofSpot P s).length c) (ofSpot P s)) ∧ Far (fun _ => False) w w' := by
  obtain ⟨h, hh⟩ : ∃ h, h = w.heap.size := ⟨_, rfl⟩
  obtain ⟨ao, ac, rfl⟩ := Src.form hP
  obtain ⟨bo, bc, rfl⟩ := Src.form hQ
  obtain ⟨W, hW⟩ : ∃ W, W = w.alloc (.cells #[.slice ao F.length ac, .slice bo P.length bc] 25) := ⟨_, rfl⟩
  have hA : Bk W h 25 #[.slice ao F.length ac, .slice bo P.length bc] := hW ▸ Bk.new hh
  have hF : Far (fun _ => False) w W := hW ▸ (Far.refl _ w).alloc _
  obtain ⟨pi, pz, pi1, pi2, pi3, pi4, pi5⟩ := info3 info_pack
  have hQ1 := Lib.hid (hQ.move hF)
  have hs3 : P.length ≤ 3518437208783 := by omega
  have hh' := Lib.hid hh
  have hW' := Lib.hid hW
  have hA' := Lib.hid hA
  have hF' := Lib.hid hF
  clear hP hQ hh hW hA hF hs2
  go_enter Tryz.func11, Tryz.ntmps11
  go_upto_region 1 with fail
  rw [← hh'.out, ← hW'.out]
  go_wp2_with fail
  go_loopw [5, 6] (fun ov iv wr => ∃ (i : Nat) (oo : Option Addr) (oc : Nat) (D : List Pk), ov = .slice oo D.length oc ∧ iv = .int .i64 i ∧ i ≤ P.length ∧ D = ofSpot (P.take i) s ∧ wr.ownsRow W.heap.size 42 5 (.slice oo D.length oc) D.length (pcells D) ∧ Far (fun _ => False) W wr) (fun _ iv _ => P.length - (intOf iv).toNat)
  case atStart => exact ⟨0, none, 0, [], rfl, rfl, Nat.zero_le _, rfl, World.ownsRow_nil _ _ _ _, Far.refl _ _⟩
  case round =>
    obtain ⟨i, oo, oc, D, rfl, rfl, hi, hD, hown, hfw⟩ := hrel
    have a1 : wr.cell? ⟨h, 1, none⟩ = some (.slice bo P.length bc) := (hA'.out.far' hfw id).cell 1
    have hDl : D.length ≤ P.length := by
      rw [hD]
      have := ofSpot_len (P.take i) s
      rw [List.length_take] at this
      omega
    by_cases hlt : i < P.length
    · have e1 : decide ((i : Int) < (P.length : Int)) = true := by rw [decide_eq_true_eq]; omega
      have hii : (i : Int) < (P.length : Int) := by omega
      obtain ⟨p, hp⟩ : ∃ p, P[i]? = some p := ⟨P[i], List.getElem?_eq_getElem hlt⟩
      obtain ⟨b, off, c, he, hbl, c0, c1, c2, c3, c4⟩ := (hQ1.out.move hfw).pack hp
      simp only [Value.slice.injEq] at he
      obtain ⟨rfl, _, rfl⟩ := he
      have hsu := ofSpot_succ hp s
      rw [← hD] at hsu
      obtain ⟨q0, q1, q2, q3, q4⟩ := p
      dsimp only at c0 c1 c2 c3 c4 hsu
      have hown' := Lib.hid hown
      have hfw' := Lib.hid hfw
      cases hq : q0 == s with
      | true =>
        have hsu' := Lib.hid (show D ++ [(q0, q1, q2, q3, q4)] = ofSpot (P.take (i + 1)) s by rw [hsu, hq]; rfl)
        have A1 := Lib.hid (hown.alloc (.cells #[.int .i64 q0, .int .i64 q1, .int .i64 q2, .int .i64 q3, .int .i64 q4] 42))
        have A2 := Lib.hid (World.news_of_block (w := wr.alloc (.cells #[.int .i64 q0, .int .i64 q1, .int .i64 q2, .int .i64 q3, .int .i64 q4] 42)) (cs := #[.int .i64 q0, .int .i64 q1, .int .i64 q2, .int .i64 q3, .int .i64 q4]) (t := 42) (fr := (0, 0)) (heap_alloc_new wr _))
        have A3 : ∀ u ∈ [Value.int .i64 q0, .int .i64 q1, .int .i64 q2, .int .i64 q3, .int .i64 q4], u.oneCell' = true := by simp [Value.oneCell']
        have A4 : D.length + 1 ≤ maxLen := by unfold maxLen; omega
        have A5 : (D.length + 1) * 40 ≤ 140737488355328 := by omega
        have A6 : W.heap.size ≤ (wr.alloc (.cells #[.int .i64 q0, .int .i64 q1, .int .i64 q2, .int .i64 q3, .int .i64 q4] 42)).heap.size := by have := hfw.size; simp; omega
        clear hown hfw hsu hp hD hbl
        go_upto_region 4 with (at_builtin; refine wpList_append_lies _ rfl _ _ 23 rfl W.heap.size 42 pi _ 5 40 Tryz.underlying23 pi1 pi2 pi3 pi4 pi5 (by decide) (.slice oo D.length oc) D.length _ rfl A1.out ⟨wr.heap.size, 0, none⟩ 1 1 _ rfl rfl A2.out A3 (by decide) A4 A5 A6 _ rfl ?_; intro fg fcap w7 ho7 hg7 hat7 hl7)
        have hR7 : Far (fun k => (Value.slice oo D.length oc).ownBlock = some k) wr w7 := ((Far.refl _ wr).alloc _).grown hg7 fun k _ e => e
        have hW7 := Lib.hid (hfw'.out.trans hR7 fun k hk e => by have := (hown'.out.lt k e).1; omega)
        have hP7 := Lib.hid (show w7.ownsRow W.heap.size 42 5 (.slice (some ⟨fg, 0, none⟩) (D ++ [(q0, q1, q2, q3, q4)]).length fcap) (D ++ [(q0, q1, q2, q3, q4)]).length (pcells (D ++ [(q0, q1, q2, q3, q4)])) by rw [List.length_append]; unfold pcells; rw [List.flatMap_append]; exact ho7)
        clear hR7 ho7 hg7 hat7 A1 A2 A3 A4 A5 A6 hq a1 c0 c1 c2 c3 c4
        go_wp2_with fail
        go_roundw
        case rel => exact ⟨i + 1, some ⟨fg, 0, none⟩, fcap, D ++ [(q0, q1, q2, q3, q4)], by simp, by go_num, by omega, hsu'.out, hP7.out, hW7.out⟩
        case measure => simp [intOf]; omega
      | false =>
        have hsu' := Lib.hid (show D = ofSpot (P.take (i + 1)) s by rw [hsu, hq]; exact (List.append_nil _).symm)
        clear hown hfw hsu hp hD hbl
        go_wp2_with fail
        go_roundw
        case rel => exact ⟨i + 1, oo, oc, D, rfl, by go_num, by omega, hsu'.out, hown'.out, hfw'.out⟩
        case measure => simp [intOf]; omega
    · have e1 : decide ((i : Int) < (P.length : Int)) = false := by rw [decide_eq_false_iff_not]; omega
      have hin : i = P.length := by omega
      rw [hin, List.take_length] at hD
      subst hD
      have hown' := Lib.hid hown
      have hfw' := Lib.hid hfw
      clear hown hfw
      go_wp2_with fail
      go_ret
      exact ⟨⟨_, _, rfl, Src.own hown'.out⟩, hF'.out.then hfw'.out⟩
end
end Go.Proofs.YteoglnbmmgoibaaGreatDoor
