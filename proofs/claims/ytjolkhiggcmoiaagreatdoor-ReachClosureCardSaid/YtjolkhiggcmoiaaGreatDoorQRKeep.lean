/-
  A keeper in memory; its small calls.
-/
import Derived.Test.YtjolkhiggcmoiaaGreatDoorQHasP
import Derived.Test.YtjolkhiggcmoiaaGreatDoorQRMath
namespace Go.Proofs.YtjolkhiggcmoiaaGreatDoor
open Go.RowKit Go.Shelf
set_option linter.unusedVariables false
set_option linter.unusedSimpArgs false
/-- A keeper at B: its steps M, these turned over, their closure C. -/
structure Kp (w : World) (B ps pb pc : Nat) (Fs Fb Fc : Nat → Prop) (s : Nat) (M C : Nat → Nat → Bool) : Prop where
  box : Bk w B 90 #[.pointer (some ⟨ps, 0, none⟩), .pointer (some ⟨pb, 0, none⟩), .pointer (some ⟨pc, 0, none⟩)]
  st : Mx w ps Fs s M
  bk : Mx w pb Fb s (tnM M)
  cl : Mx w pc Fc s C
  clo : IsClo M C
  d1 : ∀ k, Fs k → ¬ Fb k
  d2 : ∀ k, Fs k → ¬ Fc k
  d3 : ∀ k, Fb k → ¬ Fc k
/-- Its blocks. -/
def KF (B : Nat) (Fs Fb Fc : Nat → Prop) (k : Nat) : Prop := k = B ∨ Fs k ∨ Fb k ∨ Fc k
section
variable {w w' : World} {B ps pb pc s : Nat} {Fs Fb Fc : Nat → Prop} {M C : Nat → Nat → Bool}
theorem Kp.kept {G : Nat → Prop} (h : Kp w B ps pb pc Fs Fb Fc s M C) (hf : Far G w w') (hG : ∀ k, KF B Fs Fb Fc k → ¬ G k) : Kp w' B ps pb pc Fs Fb Fc s M C :=
  ⟨h.box.far' hf (hG _ (.inl rfl)), h.st.kept hf fun k hk => hG k (.inr (.inl hk)), h.bk.kept hf fun k hk => hG k (.inr (.inr (.inl hk))), h.cl.kept hf fun k hk => hG k (.inr (.inr (.inr hk))), h.clo, h.d1, h.d2, h.d3⟩
theorem Kp.still (h : Kp w B ps pb pc Fs Fb Fc s M C) (hf : Far (fun _ => False) w w') : Kp w' B ps pb pc Fs Fb Fc s M C := h.kept hf fun _ _ h => h
theorem Kp.lt (h : Kp w B ps pb pc Fs Fb Fc s M C) {k : Nat} (hk : KF B Fs Fb Fc k) : k < w.heap.size := by
  rcases hk with rfl | hk | hk | hk
  · exact h.box.lt
  · exact h.st.lt k hk
  · exact h.bk.lt k hk
  · exact h.cl.lt k hk
theorem Kp.b1 (h : Kp w B ps pb pc Fs Fb Fc s M C) : ¬ Fs B ∧ ¬ Fb B ∧ ¬ Fc B := ⟨h.st.notBk h.box (by decide) (by decide) (by decide), h.bk.notBk h.box (by decide) (by decide) (by decide), h.cl.notBk h.box (by decide) (by decide) (by decide)⟩
section
set_option maxHeartbeats 4000000
set_option maxRecDepth 100000
theorem knone_no (h : Kp w B ps pb pc Fs Fb Fc s M C) : Calls Tryz.prog 44 #[.pointer (some ⟨B, 0, none⟩)] w fun e w' => e = .returned (.bool false) ∧ Far (fun _ => False) w w' := by
  have c0 : w.cell? ⟨B, 0, none⟩ = some (.pointer (some ⟨ps, 0, none⟩)) := h.box.cell 0
  clear h
  go_enter Tryz.func44, Tryz.ntmps44
  go_wp2_with fail
  go_ret
  exact ⟨rfl, Far.refl _ _⟩
theorem kreaches_any (h : Kp w B ps pb pc Fs Fb Fc s M C) (i j : Nat) (hi : i < s) (hj : j < s) : Calls Tryz.prog 91 #[.pointer (some ⟨B, 0, none⟩), .int .i64 (i : Nat), .int .i64 (j : Nat)] w fun e w' => e = .returned (.bool (C i j)) ∧ Far (fun _ => False) w w' := by
  have c2 : w.cell? ⟨B, 2, none⟩ = some (.pointer (some ⟨pc, 0, none⟩)) := h.box.cell 2
  have G := h.cl.get i j hi hj
  clear h
  go_enter Tryz.func91, Tryz.ntmps91
  go_wp2_with fail
  refine G.mono ?_
  rintro e w1 ⟨rfl, hf⟩
  go_wp2_with fail
  go_ret
  exact ⟨rfl, hf⟩
theorem khas_any (h : Kp w B ps pb pc Fs Fb Fc s M C) (i j : Int) : Calls Tryz.prog 25 #[.pointer (some ⟨B, 0, none⟩), .int .i64 i, .int .i64 j] w fun e w' => e = .returned (.tuple #[.bool (if wrE s i j = 0 then C i.toNat j.toNat else false), .int .i64 (wrE s i j : Nat)]) ∧ Far (fun _ => False) w w' := by
  have N := knone_no h
  have c2 : ∀ V, Far (fun _ => False) w V → V.cell? ⟨B, 2, none⟩ = some (.pointer (some ⟨pc, 0, none⟩)) := fun V hf => (h.still hf).box.cell 2
  have G := Lib.hid (fun (V : World) (hf : Far (fun _ => False) w V) => HasF.get_any (.inr ⟨pc, rfl, (h.still hf).cl⟩) i j)
  have c2' := Lib.hid c2
  clear h c2
  obtain ⟨b, hb⟩ : ∃ b, (if wrE s i j = 0 then C i.toNat j.toNat else false) = b := ⟨_, rfl⟩
  obtain ⟨E, hE⟩ : ∃ E, wrE s i j = E := ⟨_, rfl⟩
  rw [hE] at hb
  rw [hE, hb] at G
  rw [hE, hb]
  clear hE hb
  go_enter Tryz.func25, Tryz.ntmps25
  go_wp2_with fail
  refine N.mono ?_
  rintro e w1 ⟨rfl, hf1⟩
  have c2 := c2'.out w1 hf1
  have G1 := G.out w1 hf1
  have hf1' := Lib.hid hf1
  clear N G hf1
  go_wp2_with fail
  refine G1.mono ?_
  rintro e w2 ⟨rfl, hf2⟩
  go_wp2_with fail
  go_ret2
  exact ⟨rfl, hf1'.out.then hf2⟩
theorem klen_any (h : Kp w B ps pb pc Fs Fb Fc s M C) : Calls Tryz.prog 26 #[.pointer (some ⟨B, 0, none⟩)] w fun e w' => e = .returned (.int .i64 (numM C : Nat)) ∧ Far (fun _ => False) w w' := by
  have N := knone_no h
  have c2' := Lib.hid (fun (V : World) (hf : Far (fun _ => False) w V) => ((h.still hf).box.cell 2 : V.cell? ⟨B, 2, none⟩ = some (.pointer (some ⟨pc, 0, none⟩))))
  have G := Lib.hid (fun (V : World) (hf : Far (fun _ => False) w V) => qlen_any (h.still hf).cl)
  clear h
  go_enter Tryz.func26, Tryz.ntmps26
  go_wp2_with fail
  refine N.mono ?_
  rintro e w1 ⟨rfl, hf1⟩
  have c2 := c2'.out w1 hf1
  have G1 := G.out w1 hf1
  have hf1' := Lib.hid hf1
  clear N G hf1
  go_wp2_with fail
  refine G1.mono ?_
  rintro e w2 ⟨rfl, hf2⟩
  go_wp2_with fail
  go_ret
  exact ⟨rfl, hf1'.out.then hf2⟩
end
end
end Go.Proofs.YtjolkhiggcmoiaaGreatDoor
