/-
  BoxHas walked.
-/
import Derived.Test.YtihlfphokgicbaaDoorRefHas
import Derived.Test.YtihlfphokgicbaaDoorChecksLaw
namespace Go.Proofs.YtihlfphokgicbaaDoor
open Go.RowKit
set_option linter.unusedVariables false
set_option linter.unusedSimpArgs false
/-- What both tell. -/
def HasTold (S : Int) (n : Nat) (f : Nat → Int) (m : Nat) (g : Nat → Ar) (wl : Nat) (wd : Nat → Bool × Int) (b : Bool) (c : Int) : Prop :=
  (¬ MayBe S n f m g ∧ b = false ∧ c = 200) ∨ (MayBe S n f m g ∧ 64 < wl ∧ b = false ∧ c = 3) ∨ (MayBe S n f m g ∧ wl ≤ 64 ∧ (b = true ↔ hasP g m wd wl n f) ∧ c = 0)
theorem told_same {S : Int} {n : Nat} {f : Nat → Int} {m : Nat} {g : Nat → Ar} {wl : Nat} {wd : Nat → Bool × Int} {b b' : Bool} {c c' : Int} (h : HasTold S n f m g wl wd b c) (h' : HasTold S n f m g wl wd b' c') : b = b' ∧ c = c' := by
  rcases h with ⟨h1, h2, h3⟩ | ⟨h1, h2, h3, h4⟩ | ⟨h1, h2, h3, h4⟩ <;> rcases h' with ⟨k1, k2, k3⟩ | ⟨k1, k2, k3, k4⟩ | ⟨k1, k2, k3, k4⟩
  · exact ⟨h2.trans k2.symm, h3.trans k3.symm⟩
  · exact absurd k1 h1
  · exact absurd k1 h1
  · exact absurd h1 k1
  · exact ⟨h3.trans k3.symm, h4.trans k4.symm⟩
  · omega
  · exact absurd h1 k1
  · omega
  · exact ⟨Bool.eq_iff_iff.2 (h3.trans k3.symm), h4.trans k4.symm⟩
theorem has_any' (S : Int) (fo : Option Addr) (n fc : Nat) (f : Nat → Int) (ao : Option Addr) (m ac : Nat) (g : Nat → Ar) (qo : Option Addr) (wl qc : Nat) (wd : Nat → Bool × Int) (w : World) (hI : Ints w fo n f) (hA : Arcs w ao m g) (hQ : Syms w qo wl wd) (hn : n ≤ maxLen) (hm : m ≤ maxLen) (hT : Tab w) :
    Calls Tryd.prog 9 #[.agg #[.int .i64 S, .slice fo n fc, .slice ao m ac], .slice qo wl qc] w fun e w' => (∃ (b : Bool) (c : Int), e = .returned (.tuple #[.bool b, .int .i64 c]) ∧ HasTold S n f m g wl wd b c) ∧ Far (fun _ => False) w w' := by
  by_cases hM : MayBe S n f m g
  · by_cases hl : wl ≤ 64
    · exact (bhas_yes S fo n fc f ao m ac g qo wl qc wd w hI hA hQ hn hm hM hl hT).mono fun e w' ⟨⟨b, he, hb⟩, hw⟩ => ⟨⟨b, 0, he, .inr (.inr ⟨hM, hl, hb, rfl⟩)⟩, hw⟩
    · exact (bhas_long S fo n fc f ao m ac g qo wl qc w hI hA hn hm hM (by omega)).mono fun e w' ⟨he, hw⟩ => ⟨⟨false, 3, he, .inr (.inl ⟨hM, by omega, rfl, rfl⟩)⟩, hw⟩
  · exact (bhas_no S fo n fc f ao m ac g qo wl qc w hI hA hn hm hM).mono fun e w' ⟨he, hw⟩ => ⟨⟨false, 200, he, .inl ⟨hM, rfl, rfl⟩⟩, hw⟩
theorem rhas_any' (S : Int) (fo : Option Addr) (n fc : Nat) (f : Nat → Int) (ao : Option Addr) (m ac : Nat) (g : Nat → Ar) (qo : Option Addr) (wl qc : Nat) (wd : Nat → Bool × Int) (w : World) (hI : Ints w fo n f) (hA : Arcs w ao m g) (hQ : Syms w qo wl wd) (hn : n ≤ maxLen) (hm : m ≤ maxLen) :
    Calls Tryd.prog 10 #[.agg #[.int .i64 S, .slice fo n fc, .slice ao m ac], .slice qo wl qc] w fun e w' => (∃ (b : Bool) (c : Int), e = .returned (.tuple #[.bool b, .int .i64 c]) ∧ HasTold S n f m g wl wd b c) ∧ Far (fun _ => False) w w' := by
  by_cases hM : MayBe S n f m g
  · by_cases hl : wl ≤ 64
    · obtain ⟨sn, rfl⟩ : ∃ sn : Nat, S = (sn : Int) := ⟨S.toNat, by have := hM.1; omega⟩
      exact (rhas_yes sn fo n fc f ao m ac g qo wl qc wd w hI hA hQ hn hm hM hl).mono fun e w' ⟨⟨b, he, hb⟩, hw⟩ => ⟨⟨b, 0, he, .inr (.inr ⟨hM, hl, hb, rfl⟩)⟩, hw⟩
    · exact (rhas_long S fo n fc f ao m ac g qo wl qc w hI hA hn hm hM (by omega)).mono fun e w' ⟨he, hw⟩ => ⟨⟨false, 3, he, .inr (.inl ⟨hM, by omega, rfl, rfl⟩)⟩, hw⟩
  · exact (rhas_no S fo n fc f ao m ac g qo wl qc w hI hA hn hm hM).mono fun e w' ⟨he, hw⟩ => ⟨⟨false, 200, he, .inl ⟨hM, rfl, rfl⟩⟩, hw⟩
section
set_option maxHeartbeats 2000000
set_option maxRecDepth 100000
theorem has_law (S : Int) (fo : Option Addr) (n fc : Nat) (f : Nat → Int) (ao : Option Addr) (m ac : Nat) (g : Nat → Ar) (qo : Option Addr) (wl qc : Nat) (wd : Nat → Bool × Int) (w : World) (hI : Ints w fo n f) (hA : Arcs w ao m g) (hQ : Syms w qo wl wd) (hn : n ≤ maxLen) (hm : m ≤ maxLen) (hT : Tab w) :
    Calls Tryd.prog 4 #[.agg #[.int .i64 S, .slice fo n fc, .slice ao m ac], .slice qo wl qc] w fun e w' => e = .returned (.bool true) ∧ Below w.heap.size w w' := by
  obtain ⟨h, hh⟩ : ∃ h, h = w.heap.size := ⟨_, rfl⟩
  obtain ⟨w1, hw1⟩ : ∃ w1, w1 = w.alloc (.cells #[.int .i64 S, .slice fo n fc, .slice ao m ac] 25) := ⟨_, rfl⟩
  have hB : Bk w1 h 25 #[.int .i64 S, .slice fo n fc, .slice ao m ac] := hw1 ▸ Bk.new hh
  have hF : Far (fun _ => False) w w1 := hw1 ▸ (Far.refl _ w).alloc _
  have b0 : w1.cell? ⟨h, 0, none⟩ = some (.int .i64 S) := hB.cell 0
  have b1 : w1.cell? ⟨h, 1, none⟩ = some (.slice fo n fc) := hB.cell 1
  have b2 : w1.cell? ⟨h, 2, none⟩ = some (.slice ao m ac) := hB.cell 2
  have HP := has_any' S fo n fc f ao m ac g qo wl qc wd w1 (hI.move hF) (hA.move hF) (hQ.move hF) hn hm (hT.stays (hF.below (Nat.le_refl _) fun _ _ h => h))
  have HR := Lib.hid (fun w' (hf : Far (fun _ => False) w1 w') => rhas_any' S fo n fc f ao m ac g qo wl qc wd w' ((hI.move hF).move hf) ((hA.move hF).move hf) ((hQ.move hF).move hf) hn hm)
  have hh' := Lib.hid hh
  have hw1' := Lib.hid hw1
  have hF' := Lib.hid hF
  have hB' := Lib.hid hB
  clear hI hA hQ hn hm hT hh hw1 hF hB
  go_enter Tryd.func4, Tryd.ntmps4
  go_upto_region 1 with fail
  rw [← hh'.out, ← hw1'.out]
  go_wp2_with fail
  refine HP.mono ?_
  rintro e w2 ⟨⟨b, c, rfl, hT1⟩, hf2⟩
  have hT1' := Lib.hid hT1
  have hf2' := Lib.hid hf2
  have HR2 := HR.out w2 hf2
  have hB2 := hB'.out.far' hf2 id
  clear b0 b1 b2 HP hT1 hf2
  have b0 : w2.cell? ⟨h, 0, none⟩ = some (.int .i64 S) := hB2.cell 0
  have b1 : w2.cell? ⟨h, 1, none⟩ = some (.slice fo n fc) := hB2.cell 1
  have b2 : w2.cell? ⟨h, 2, none⟩ = some (.slice ao m ac) := hB2.cell 2
  clear hB2
  go_wp2_with fail
  refine HR2.mono ?_
  rintro e w3 ⟨⟨b', c', rfl, hT2⟩, hf3⟩
  obtain ⟨rfl, rfl⟩ := told_same hT1'.out hT2
  have hf3' := Lib.hid hf3
  clear b0 b1 b2 HR2 hT2 hf3
  have e1 : (b == b) = true := by simp
  have e2 : (c == c) = true := by simp
  go_wp2_with fail
  refine (head_any _).mono ?_
  rintro e w4 ⟨rfl, hf4⟩
  have hf4' := Lib.hid hf4
  clear hf4
  go_wp2_with fail
  go_ret
  exact ⟨by simp, (((hF'.out.then hf2'.out).then hf3'.out).then hf4'.out).below (Nat.le_refl _) fun _ _ h => h⟩
end
end Go.Proofs.YtihlfphokgicbaaDoor
