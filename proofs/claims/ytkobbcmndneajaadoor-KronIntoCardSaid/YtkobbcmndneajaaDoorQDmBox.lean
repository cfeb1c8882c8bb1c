/-
  The document's matrices beside boxes and beside the program's.
-/
import Derived.Test.YtkobbcmndneajaaDoorQDoc
import Derived.Test.YtkobbcmndneajaaDoorQHas
namespace Go.Proofs.YtkobbcmndneajaaDoor
open Go.RowKit Go.Shelf
set_option linter.unusedVariables false
set_option linter.unusedSimpArgs false
/-- A store to a box that holds such a matrix leaves every list alone. -/
theorem Dm.box {w w' : World} {v : Value} {s k t : Nat} {M : Nat → Nat → Bool} {x : Value} {o : Option Addr} {n c : Nat} (h : Dm w v s M) (hb : Bk w k t #[x, .slice o n c]) (hf : Far (fun q => q = k) w w') : Dm w' v s M := by
  obtain ⟨ao, cap, e, hp, r⟩ := h
  refine ⟨ao, cap, e, fun hn => ?_, r⟩
  obtain ⟨g, off, rfl, hg, hc⟩ := hp hn
  have hgk : ¬ g = k := fun e => by
    subst e
    obtain ⟨h0, h1⟩ := hc 0 hn
    have e1 : w.cell? ⟨g, off + 0 * 2 + 1, Option.none⟩ = (#[x, .slice o n c] : Array Value)[off + 0 * 2 + 1]? := hb.cell _
    rw [h1] at e1
    rcases off with _ | off
    · cases e1
    · have : (#[x, .slice o n c] : Array Value)[off + 1 + 0 * 2 + 1]? = Option.none := by simp
      rw [this] at e1
      cases e1
  have hbl := hf.block g hg hgk
  exact ⟨g, off, rfl, Nat.lt_of_lt_of_le hg hf.size, fun q hq => ⟨(cell_eq (p := ⟨g, off + q * 2, Option.none⟩) hbl).trans (hc q hq).1, (cell_eq (p := ⟨g, off + q * 2 + 1, Option.none⟩) hbl).trans (hc q hq).2⟩⟩
theorem Dm.far {w w' : World} {v : Value} {s b : Nat} {F : Nat → Prop} {M : Nat → Nat → Bool} (h : Dm w v s M) (hn : Dn v b) (hf : Far F w w') (hF : ∀ k, F k → k < b) : Dm w' v s M := by
  obtain ⟨ao, cap, e, hp, r⟩ := h
  exact ⟨ao, cap, e, hp.kept hf fun a ha _ hk => Nat.lt_irrefl _ (Nat.lt_of_lt_of_le (hF _ hk) (hn _ _ _ _ e a ha)), r⟩
theorem HasF.notBk {w : World} {v : Value} {F : Nat → Prop} {s : Nat} {M : Nat → Nat → Bool} (h : HasF w v F s M) {k : Nat} {t : TypeId} {cs : Array Value} (hb : Bk w k t cs) (h1 : t ≠ 103) (h2 : t ≠ 173) (h3 : t ≠ 89) : ¬ F k := by
  rcases h with ⟨_, _, _, rfl⟩ | ⟨B, _, hX⟩
  · exact id
  · exact hX.notBk hb h1 h2 h3
end Go.Proofs.YtkobbcmndneajaaDoor
