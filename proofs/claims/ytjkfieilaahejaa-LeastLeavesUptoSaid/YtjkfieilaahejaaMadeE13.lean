/-
  What can be empty: the program's.
-/
import Derived.Test.YtjkfieilaahejaaGoodE13
import Derived.Test.YtjkfieilaahejaaShort13
namespace Go.Proofs.Ytjkfieilaahejaa
open Go.RowKit
set_option linter.unusedVariables false
set_option linter.unusedSimpArgs false
def muE (S : Nat) (E : Nat → Bool) : Nat := wsum (fun k => if E k then 0 else 1) S
theorem muE_lt {S : Nat} {E : Nat → Bool} {h : Nat} (hh : h < S) (hE : E h = false) : muE S (updG E h true) < muE S E := by
  refine wsum_lt (i := h) (fun k => ?_) ?_ S hh
  · unfold updG
    by_cases e : k = h
    · subst e; simp
    · rw [if_neg e]; exact Nat.le_refl _
  · simp [updG, hE]
section
set_option maxHeartbeats 4000000
set_option maxRecDepth 100000
theorem madeE_any (S : Nat) (pv : Value) (T : List Tr) (w : World) (hP : Prods w pv T) (hs : T.length ≤ 4398046510976) (hs2 : ∀ t ∈ T, t.2.2.length ≤ maxLen) (hok : CnfOK (S : Int) T) :
    Calls Try.prog 25 #[.agg #[.int .i64 (S : Int), pv], .func (.func 26) #[] #[]] w fun e w' => Far (fun _ => False) w w' ∧ ∃ gR E, e = .returned (.slice (some ⟨gR, 0, none⟩) S S) ∧ w.heap.size ≤ gR ∧ BRow w' gR S E ∧ ClosedG goodE T E ∧ LeastG goodE T E := by
  obtain ⟨h0, hh0⟩ : ∃ h, h = w.heap.size := ⟨_, rfl⟩
  obtain ⟨kG, hkG⟩ : ∃ h, h = h0 + 1 := ⟨_, rfl⟩
  obtain ⟨gR, hgR⟩ : ∃ g, g = kG + 1 := ⟨_, rfl⟩
  obtain ⟨kIs, hkI⟩ : ∃ k, k = gR + 1 := ⟨_, rfl⟩
  obtain ⟨ao, ac, rfl⟩ := Src.form hP.1
  obtain ⟨w0, hw0⟩ : ∃ w0, w0 = w.alloc (.cells #[.int .i64 (S : Int), .slice ao T.length ac] 24) := ⟨_, rfl⟩
  obtain ⟨w1, hw1⟩ : ∃ w1, w1 = w0.alloc (.cells #[.func (.func 26) #[] #[]] 53) := ⟨_, rfl⟩
  have z0 : w0.heap.size = kG := by rw [hw0]; simp [hkG, hh0]
  have z1 : w1.heap.size = gR := by rw [hw1]; simp [hgR, z0]
  have hX : Bk w1 h0 24 #[.int .i64 (S : Int), .slice ao T.length ac] := hw1 ▸ (hw0 ▸ Bk.new hh0 : Bk w0 h0 24 #[.int .i64 (S : Int), .slice ao T.length ac]).alloc _
  have hG : Bk w1 kG 53 #[.func (.func 26) #[] #[]] := hw1 ▸ Bk.new z0.symm
  have hF1 : Far (fun _ => False) w w1 := hw1 ▸ (hw0 ▸ alloc_far0 _ _ : Far (fun _ => False) w w0).alloc _
  obtain ⟨w3, hw3⟩ : ∃ w3, w3 = w1.alloc (.cells (bcells S fun _ => false) 4) := ⟨_, rfl⟩
  obtain ⟨w4, hw4⟩ : ∃ w4, w4 = w3.alloc (.cells #[.slice (some ⟨gR, 0, none⟩) S S] 30) := ⟨_, rfl⟩
  have z3 : w3.heap.size = kIs := by rw [hw3]; simp [hkI, z1]
  have hR4 : BRow w4 gR S (fun _ => false) := hw4 ▸ Bk.alloc (hw3 ▸ Bk.new z1.symm : Bk w3 gR 4 (bcells S fun _ => false)) _
  have hI4 : Bk w4 kIs 30 #[.slice (some ⟨gR, 0, none⟩) S S] := hw4 ▸ Bk.new z3.symm
  have hF14 : Far (fun _ => False) w1 w4 := hw4 ▸ (hw3 ▸ alloc_far0 _ _ : Far (fun _ => False) w1 w3).alloc _
  have hX4 := hX.far' hF14 id
  have hG4 := hG.far' hF14 id
  have hW := hF1.then hF14
  have hgw : w.heap.size ≤ gR := by omega
  have hgkI : kIs ≠ gR := by omega
  have hgkG : kG ≠ gR := by omega
  have hS1 : 1 ≤ S := by have := hok.1.1; omega
  have hS2 : S ≤ 1024 := by have := hok.1.2; omega
  have hPk : ∀ w', Far (fun k => k = gR) w4 w' → Prods w' (.slice ao T.length ac) T := fun w' hf => hP.move (hW.out hf fun k hk e => by omega)
  have ST := settleM_any (S : Int) (.slice ao T.length ac) T gR kIs kG w4 (fun w E => BRow w gR S E) (LeastG goodE T) (fun t E => t.2.2.all (goodE E) = true → E t.1.toNat = true) (muE S) (fun _ => false)
    (Bk.lt hR4) hPk hs (fun w1 w2 s h hf => Bk.far' h hf id) hR4 (fun C hC h hh => by cases hh)
    (fun t ht E wA hfA hrA hjA => by
      obtain ⟨⟨p0, p1⟩, p2⟩ := hok.2 t ht
      have MM := made1E_any S gR kG kIs E t.1.toNat t.2.1 t.2.2 wA ((hPk wA hfA).2 t ht) (hs2 t ht) hrA (fun x hx hx1 => ⟨(p2 x hx).1, (p2 x hx).2.2 hx1⟩) hS2 (by omega) (hG4.far' hfA hgkG) (hI4.far' hfA hgkI)
      rw [Int.toNat_of_nonneg p0] at MM
      refine MM.mono fun e w2 hsp => ⟨hsp.1, ?_⟩
      rcases hsp.2 with ⟨e1, e2, e3⟩ | ⟨e1, e2, e3, e4⟩
      · exact .inl ⟨e1, e2, e3⟩
      · exact .inr ⟨_, e1, e2, stepG monoE ht hjA e4, muE_lt (by omega) e3⟩)
  have a0 : w1.cell? ⟨h0, 0, none⟩ = some (.int .i64 (S : Int)) := hX.cell 0
  have b0 : w4.cell? ⟨h0, 0, none⟩ = some (.int .i64 (S : Int)) := hX4.cell 0
  have b1 : w4.cell? ⟨h0, 1, none⟩ = some (.slice ao T.length ac) := hX4.cell 1
  have MK := make_bools S (by omega)
  have hh0' := Lib.hid hh0
  have hkG' := Lib.hid hkG
  have hgR' := Lib.hid hgR
  have hkI' := Lib.hid hkI
  have hw0' := Lib.hid hw0
  have hw1' := Lib.hid hw1
  have hw3' := Lib.hid hw3
  have hw4' := Lib.hid hw4
  have z1' := Lib.hid z1
  have hI' := Lib.hid hI4
  have hW' := Lib.hid hW
  have hgw' := Lib.hid hgw
  clear hP hs hs2 hok hh0 hkG hgR hkI hw0 hw1 hw3 hw4 z0 z1 z3 hX hG hF1 hR4 hI4 hF14 hX4 hG4 hW hgw hPk
  go_enter Try.func25, Try.ntmps25
  go_upto_region 1 with fail
  rw [← hh0'.out, ← hkG'.out, ← hw0'.out, ← hw1'.out]
  go_upto_region 2 with fail
  rw [z1'.out, ← hkI'.out, ← hw3'.out, ← hw4'.out]
  clear MK a0
  go_wp2_with fail
  refine ST.mono ?_
  rintro e w6 ⟨⟨v6, rfl⟩, hf6, E, hr6, hj6, hfx6⟩
  have l6 : w6.cell? ⟨kIs, 0, none⟩ = some (.slice (some ⟨gR, 0, none⟩) S S) := (hI'.out.far' hf6 hgkI).cell 0
  have hW6 := Lib.hid (hW'.out.out hf6 fun k hk e => by have := hgw'.out; omega)
  have hall := Lib.hid (show BRow w6 gR S E ∧ ClosedG goodE T E ∧ LeastG goodE T E from ⟨hr6, hfx6, hj6⟩)
  clear ST hf6 hr6 hj6 hfx6 b0 b1
  go_wp2_with fail
  go_ret
  exact ⟨hW6.out, gR, E, rfl, hgw'.out, hall.out⟩
theorem leastE_yes (S : Nat) (pv : Value) (T : List Tr) (w : World) (hP : Prods w pv T) (hs : T.length ≤ 4398046510976) (hs2 : ∀ t ∈ T, t.2.2.length ≤ maxLen) (hok : CnfOK (S : Int) T) :
    Calls Try.prog 11 #[.agg #[.int .i64 (S : Int), pv]] w fun e w' => Far (fun _ => False) w w' ∧ ∃ gR E, e = .returned (.tuple #[.slice (some ⟨gR, 0, none⟩) S S, .int .i64 0]) ∧ w.heap.size ≤ gR ∧ BRow w' gR S E ∧ ClosedG goodE T E ∧ LeastG goodE T E := by
  obtain ⟨h0, hh0⟩ : ∃ h, h = w.heap.size := ⟨_, rfl⟩
  obtain ⟨ao, ac, rfl⟩ := Src.form hP.1
  obtain ⟨w1, hw1⟩ : ∃ w1, w1 = w.alloc (.cells #[.int .i64 (S : Int), .slice ao T.length ac] 24) := ⟨_, rfl⟩
  have hF1 : Far (fun _ => False) w w1 := hw1 ▸ alloc_far0 _ _
  have hX : Bk w1 h0 24 #[.int .i64 (S : Int), .slice ao T.length ac] := hw1 ▸ Bk.new hh0
  have a0 : w1.cell? ⟨h0, 0, none⟩ = some (.int .i64 (S : Int)) := hX.cell 0
  have a1 : w1.cell? ⟨h0, 1, none⟩ = some (.slice ao T.length ac) := hX.cell 1
  have CK := check_any (S : Int) (.slice ao T.length ac) T w1 (hP.move hF1) (by unfold maxLen; omega) hs2
  rw [pcode_yes hok] at CK
  have MD := Lib.hid (fun w' (hf : Far (fun _ => False) w1 w') => madeE_any S (.slice ao T.length ac) T w' ((hP.move hF1).move hf) hs hs2 hok)
  have hX' := Lib.hid hX
  have hF1' := Lib.hid hF1
  have hw1' := Lib.hid hw1
  have hh0' := Lib.hid hh0
  clear hP hs hs2 hok hX hF1 hw1 hh0
  go_enter Try.func11, Try.ntmps11
  go_upto_region 1 with fail
  rw [← hh0'.out, ← hw1'.out]
  go_wp2_with fail
  refine CK.mono ?_
  rintro e w2 ⟨rfl, hf2⟩
  have b0 : w2.cell? ⟨h0, 0, none⟩ = some (.int .i64 (S : Int)) := (hX'.out.far' hf2 id).cell 0
  have b1 : w2.cell? ⟨h0, 1, none⟩ = some (.slice ao T.length ac) := (hX'.out.far' hf2 id).cell 1
  have M2 := MD.out w2 hf2
  have hF2 := Lib.hid (hF1'.out.then hf2)
  clear CK hf2 a0 a1
  go_wp2_with fail
  refine M2.mono ?_
  rintro e w3 ⟨hf3, gR, E, rfl, hg3, hall⟩
  have hF3 := Lib.hid (hF2.out.then hf3)
  have hg3' := Lib.hid (Nat.le_trans hF2.out.size hg3)
  have hall' := Lib.hid hall
  clear M2 hf3 hg3 hall b0 b1
  go_wp2_with fail
  exact bodyPost_ret (v := .tuple #[.slice (some ⟨gR, 0, none⟩) S S, .int .i64 0]) (by simp [results, Try.f11, go_sem]) rfl ⟨hF3.out, gR, E, rfl, hg3'.out, hall'.out⟩
theorem leastE_no (S : Int) (pv : Value) (T : List Tr) (w : World) (hP : Prods w pv T) (hs : T.length ≤ maxLen) (hs2 : ∀ t ∈ T, t.2.2.length ≤ maxLen) (hok : ¬ CnfOK S T) :
    Calls Try.prog 11 #[.agg #[.int .i64 S, pv]] w fun e w' => Far (fun _ => False) w w' ∧ e = .returned (.tuple #[.slice none 0 0, .int .i64 220]) := by
  obtain ⟨h0, hh0⟩ : ∃ h, h = w.heap.size := ⟨_, rfl⟩
  obtain ⟨ao, ac, rfl⟩ := Src.form hP.1
  obtain ⟨w1, hw1⟩ : ∃ w1, w1 = w.alloc (.cells #[.int .i64 S, .slice ao T.length ac] 24) := ⟨_, rfl⟩
  have hF1 : Far (fun _ => False) w w1 := hw1 ▸ alloc_far0 _ _
  have hX : Bk w1 h0 24 #[.int .i64 S, .slice ao T.length ac] := hw1 ▸ Bk.new hh0
  have a0 : w1.cell? ⟨h0, 0, none⟩ = some (.int .i64 S) := hX.cell 0
  have a1 : w1.cell? ⟨h0, 1, none⟩ = some (.slice ao T.length ac) := hX.cell 1
  have CK := check_any S (.slice ao T.length ac) T w1 (hP.move hF1) hs hs2
  rw [pcode_no hok] at CK
  have hF1' := Lib.hid hF1
  have hw1' := Lib.hid hw1
  have hh0' := Lib.hid hh0
  clear hP hs2 hok hX hF1 hw1 hh0 hs
  go_enter Try.func11, Try.ntmps11
  go_upto_region 1 with fail
  rw [← hh0'.out, ← hw1'.out]
  go_wp2_with fail
  refine CK.mono ?_
  rintro e w2 ⟨rfl, hf2⟩
  have hF2 := Lib.hid (hF1'.out.then hf2)
  clear CK hf2 a0 a1
  go_wp2_with fail
  exact bodyPost_ret (v := .tuple #[.slice none 0 0, .int .i64 220]) (by simp [results, Try.f11, go_sem]) rfl ⟨hF2.out, rfl⟩
end
end Go.Proofs.Ytjkfieilaahejaa
