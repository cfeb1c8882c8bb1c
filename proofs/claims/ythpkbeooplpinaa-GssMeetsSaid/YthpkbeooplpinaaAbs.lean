/-
  Abs: each call over the whole stack.
-/
import Derived.Test.YthpkbeooplpinaaGets2
namespace Go.Proofs.Ythpkbeooplpinaa
open Go.RowKit
set_option linter.unusedVariables false
set_option linter.unusedSimpArgs false
theorem Bk.far' {w w' : World} {g : Nat} {t : TypeId} {cs : Array Value} {F : Nat → Prop} (h : Bk w g t cs) (hf : Far F w w') (hg : ¬ F g) : Bk w' g t cs := (hf.block g h.lt hg).trans h
/-- Memory moved within blocks F, to blocks F' that are of F or new. -/
structure Moves (w w' : World) (F F' : Nat → Prop) : Prop where
  far : Far F w w'
  more : ∀ k, F' k → F k ∨ w.heap.size ≤ k
theorem Moves.still {w w' : World} {F : Nat → Prop} (h : Far (fun _ => False) w w') : Moves w w' F F := ⟨h.mono fun _ _ h => h.elim, fun _ h => .inl h⟩
theorem Moves.trans {a b c : World} {F G H : Nat → Prop} (h : Moves a b F G) (k : Moves b c G H) : Moves a c F H :=
  ⟨h.far.trans k.far fun i hi hg => (h.more i hg).resolve_right (by omega), fun i hi => by
    rcases k.more i hi with hg | hg
    · exact h.more i hg
    · exact .inr (Nat.le_trans h.far.size hg)⟩
theorem Stk.lt {w : World} {B K : Nat} {l : List Nd} {F : Nat → Prop} (h : Stk w B K l F) : ∀ k, F k → k < w.heap.size := by
  obtain ⟨m1, m2, m3, sl, L, c1, c2, c3, hC, _, rfl⟩ := h
  exact hC.lt
theorem Stk.kept {w w' : World} {B K : Nat} {l : List Nd} {F G : Nat → Prop} (h : Stk w B K l F) (hf : Far G w w') (hG : ∀ k, F k → ¬ G k) : Stk w' B K l F := by
  obtain ⟨m1, m2, m3, sl, L, c1, c2, c3, hC, hl, rfl⟩ := h
  exact ⟨m1, m2, m3, sl, L, c1, c2, c3, hC.kept hf hG, hl, rfl⟩
theorem Stk.still {w w' : World} {B K : Nat} {l : List Nd} {F : Nat → Prop} (h : Stk w B K l F) (hf : Far (fun _ => False) w w') : Stk w' B K l F := h.kept hf fun _ _ h => h
theorem Stk.mono {w : World} {B K K' : Nat} {l : List Nd} {F : Nat → Prop} (h : Stk w B K l F) (hK : K ≤ K') : Stk w B K' l F := by
  obtain ⟨m1, m2, m3, sl, L, c1, c2, c3, hC, hl, hF⟩ := h
  exact ⟨m1, m2, m3, sl, L, c1, c2, c3, hC.mono hK, hl, hF⟩
theorem Stk.many {w : World} {B K : Nat} {l : List Nd} {F : Nat → Prop} (h : Stk w B K l F) : l.length ≤ K := by
  obtain ⟨m1, m2, m3, sl, L, c1, c2, c3, hC, rfl, hF⟩ := h
  simpa using hC.many
theorem Stk.long {w : World} {B K : Nat} {l : List Nd} {F : Nat → Prop} (h : Stk w B K l F) {i : Nat} {r : Nd} (hr : l[i]? = some r) : r.fs.length ≤ K ∧ r.ps.length ≤ K := by
  obtain ⟨m1, m2, m3, sl, L, c1, c2, c3, hC, rfl, hF⟩ := h
  rw [List.getElem?_map] at hr
  obtain ⟨s, hs, rfl⟩ := Option.map_eq_some_iff.1 hr
  exact hC.long i s hs
theorem new_stk (w : World) : Calls Try.prog 8 #[] w fun e w' => e = .returned (.pointer (some ⟨w.heap.size + 3, 0, none⟩)) ∧ ∃ F, Stk w' (w.heap.size + 3) 0 [] F ∧ (∀ k, F k → w.heap.size ≤ k) ∧ Far (fun _ => False) w w' := by
  refine (new_any w).mono ?_
  rintro e w' ⟨rfl, rfl⟩
  refine ⟨rfl, foot (w.heap.size + 3) w.heap.size (w.heap.size + 1) (w.heap.size + 2) (.slice none 0 0) [], ⟨w.heap.size, w.heap.size + 1, w.heap.size + 2, .slice none 0 0, [], fun _ => none, fun _ => none, fun _ => none, ?_, rfl, rfl⟩, ?_, (((Far.refl _ w).alloc _).alloc _).alloc _ |>.alloc _⟩
  · refine ⟨Bk.new (by simp), World.ownsRow_nil _ _ _ _, fun i r h => by simp at h, fun i r h => by simp at h, fun i j r s h => by simp at h, fun i j r s h => by simp at h, ?_, ?_, ?_, by omega, by omega, by omega, ?_, Nat.le_refl _, fun i r h => by simp at h⟩
    · exact ((((Tally.made w 79).alloc _).alloc _).alloc _)
    · have := ((Tally.made (w.alloc (.map #[] 0)) 88).alloc (.map #[] 0)).alloc (.cells #[.slice none 0 0, .map (some w.heap.size), .map (some (w.heap.size + 1)), .map (some (w.heap.size + 2))] 77)
      rw [show (w.alloc (.map #[] 0)).heap.size = w.heap.size + 1 by simp] at this
      exact this
    · have := (Tally.made ((w.alloc (.map #[] 0)).alloc (.map #[] 0)) 70).alloc (.cells #[.slice none 0 0, .map (some w.heap.size), .map (some (w.heap.size + 1)), .map (some (w.heap.size + 2))] 77)
      rw [show ((w.alloc (.map #[] 0)).alloc (.map #[] 0)).heap.size = w.heap.size + 2 by simp] at this
      exact this
    · exact ⟨fun a b => rfl, fun i r h => by simp at h, fun i _ x y => rfl, fun i r h => by simp at h, fun i _ x => rfl⟩
  · rintro k (rfl | rfl | rfl | rfl | hk | ⟨r, hr, hk⟩)
    · omega
    · omega
    · omega
    · omega
    · cases hk
    · cases hr
theorem node_old_stk {w : World} {B K : Nat} {l : List Nd} {F : Nat → Prop} (h : Stk w B K l F) {a b : Int} (ha : Fit a) (hb : Fit b) {i : Nat} (hi : look l a b = some i) :
    Calls Try.prog 9 #[.pointer (some ⟨B, 0, none⟩), .int .i64 a, .int .i64 b] w fun e w' => e = .returned (.tuple #[.int .i64 i, .bool false]) ∧ Far (fun _ => False) w w' := by
  obtain ⟨m1, m2, m3, sl, L, c1, c2, c3, hC, rfl, rfl⟩ := h
  exact node_old w a b i B m1 m2 m3 K sl c1 ha hb hC.top hC.t1 (by rw [hC.told.spots, hi]; rfl)
theorem node_new_stk {w : World} {B K : Nat} {l : List Nd} {F : Nat → Prop} (h : Stk w B K l F) (hK : K < 1000000) {a b : Int} (ha : Fit a) (hb : Fit b) (hi : look l a b = none) :
    Calls Try.prog 9 #[.pointer (some ⟨B, 0, none⟩), .int .i64 a, .int .i64 b] w fun e w' => e = .returned (.tuple #[.int .i64 l.length, .bool true]) ∧ ∃ F', Stk w' B (K + 1) (l ++ [⟨a, b, [], []⟩]) F' ∧ Moves w w' F F' := by
  obtain ⟨m1, m2, m3, sl, L, c1, c2, c3, hC, rfl, rfl⟩ := h
  have hm := hC.many
  refine (node_new w a b B m1 m2 m3 K L.length sl (nc L) c1 ha hb (by omega) hK hC.top hC.t1 (by rw [hC.told.spots, hi]; rfl) hC.row).mono ?_
  rintro e w' ⟨rfl, sl', hB, hT, hR, hsl, hf⟩
  have hG : ∀ k, (k = B ∨ k = m1 ∨ sl.ownBlock = some k) → foot B m1 m2 m3 sl L k := by
    rintro k (e | e | e)
    · exact .inl e
    · exact .inr (.inl e)
    · exact .inr (.inr (.inr (.inr (.inl e))))
  have hget : ∀ (i : Nat) (r : Rw), (L ++ [⟨⟨a, b, [], []⟩, .slice none 0 0, .slice none 0 0⟩])[i]? = some r → L[i]? = some r ∨ (i = L.length ∧ r = ⟨⟨a, b, [], []⟩, .slice none 0 0, .slice none 0 0⟩) := fun i r hr => by
    rcases Nat.lt_or_ge i L.length with hlt | hge
    · rw [List.getElem?_append_left hlt] at hr; exact .inl hr
    · rw [List.getElem?_append_right hge] at hr
      rcases hk : i - L.length with _ | k
      · rw [hk] at hr; right; exact ⟨by omega, by simpa using hr.symm⟩
      · rw [hk] at hr; simp at hr
  have hkf : ∀ (i : Nat) (r : Rw), L[i]? = some r → ∀ k, r.fv.ownBlock = some k → ¬ (k = B ∨ k = m1 ∨ sl.ownBlock = some k) := by
    rintro i r hr k hk (rfl | rfl | e)
    · exact row_ne hC.top (hC.frames i r hr) ne_sf hk
    · exact tally_ne hC.t1 (hC.frames i r hr) hk
    · rcases rows_ne hC.row (hC.frames i r hr) ne_nf with e' | e'
      · rw [e'] at e; cases e
      · exact e' (e.trans hk.symm)
  have hkp : ∀ (i : Nat) (r : Rw), L[i]? = some r → ∀ k, r.pv.ownBlock = some k → ¬ (k = B ∨ k = m1 ∨ sl.ownBlock = some k) := by
    rintro i r hr k hk (rfl | rfl | e)
    · exact row_ne hC.top (hC.pops i r hr) ne_si hk
    · exact tally_ne hC.t1 (hC.pops i r hr) hk
    · rcases rows_ne hC.row (hC.pops i r hr) ne_ni with e' | e'
      · rw [e'] at e; cases e
      · exact e' (e.trans hk.symm)
  refine ⟨by simp, foot B m1 m2 m3 sl' (L ++ [⟨⟨a, b, [], []⟩, .slice none 0 0, .slice none 0 0⟩]), ⟨m1, m2, m3, sl', L ++ [⟨⟨a, b, [], []⟩, .slice none 0 0, .slice none 0 0⟩], putAt c1 (sp a b) L.length, c2, c3, ?_, by simp, rfl⟩, hf.mono fun k _ => hG k, ?_⟩
  · refine ⟨hB, by rw [nc_app, List.length_append]; exact hR, fun i r hr => ?_, fun i r hr => ?_, fun i j r s hr hs hne => ?_, fun i j r s hr hs hne => ?_, hT, ?_, ?_, hC.m12, hC.m13, hC.m23, ?_, by simp; omega, fun i r hr => ?_⟩
    · rcases hget i r hr with hr | ⟨_, rfl⟩
      · exact row_same (hC.frames i r hr) fun k hk hlt => hf.block k hlt (hkf i r hr k hk)
      · exact World.ownsRow_nil _ _ _ _
    · rcases hget i r hr with hr | ⟨_, rfl⟩
      · exact row_same (hC.pops i r hr) fun k hk hlt => hf.block k hlt (hkp i r hr k hk)
      · exact World.ownsRow_nil _ _ _ _
    · rcases hget i r hr with hr | ⟨rfl, rfl⟩
      · rcases hget j s hs with hs | ⟨rfl, rfl⟩
        · exact hC.apartF i j r s hr hs hne
        · cases hv : r.fv.ownBlock
          · exact .inl rfl
          · exact .inr (fun e => by cases e)
      · exact .inl rfl
    · rcases hget i r hr with hr | ⟨rfl, rfl⟩
      · rcases hget j s hs with hs | ⟨rfl, rfl⟩
        · exact hC.apartP i j r s hr hs hne
        · cases hv : r.pv.ownBlock
          · exact .inl rfl
          · exact .inr (fun e => by cases e)
      · exact .inl rfl
    · refine (hC.t2.mono (Nat.le_succ K)).same (hf.block _ hC.t2.lt ?_)
      rintro (e | e | e)
      · exact hC.t2.notCells (by rw [e]; exact hC.top)
      · exact hC.m12 e.symm
      · exact tally_ne hC.t2 hC.row e
    · refine (hC.t3.mono (Nat.le_succ K)).same (hf.block _ hC.t3.lt ?_)
      rintro (e | e | e)
      · exact hC.t3.notCells (by rw [e]; exact hC.top)
      · exact hC.m13 e.symm
      · exact tally_ne hC.t3 hC.row e
    · have := hC.told.node hi
      simp at this ⊢
      exact this
    · rcases hget i r hr with hr | ⟨_, rfl⟩
      · have := hC.long i r hr; omega
      · simp
  · rintro k (e | e | e | e | e | ⟨r, hr, hk⟩)
    · exact .inl (.inl e)
    · exact .inl (.inr (.inl e))
    · exact .inl (.inr (.inr (.inl e)))
    · exact .inl (.inr (.inr (.inr (.inl e))))
    · rcases hsl with h | ⟨g, h, hg⟩
      · exact .inl (.inr (.inr (.inr (.inr (.inl (h ▸ e))))))
      · rw [h] at e; cases e; exact .inr hg
    · simp at hr
      rcases hr with hr | rfl
      · exact .inl (.inr (.inr (.inr (.inr (.inr ⟨r, hr, hk⟩)))))
      · rcases hk with hk | hk <;> cases hk
theorem foot_set {B m1 m2 m3 : Nat} {sl : Value} {L : List Rw} {i : Nat} {r r' : Rw} {N : Nat} (hr : L[i]? = some r) (hf : r'.fv.ownBlock = r.fv.ownBlock ∨ ∃ g, r'.fv.ownBlock = some g ∧ N ≤ g) (hp : r'.pv.ownBlock = r.pv.ownBlock ∨ ∃ g, r'.pv.ownBlock = some g ∧ N ≤ g) :
    ∀ k, foot B m1 m2 m3 sl (L.set i r') k → foot B m1 m2 m3 sl L k ∨ N ≤ k := by
  rintro k (e | e | e | e | e | ⟨s, hs, hk⟩)
  · exact .inl (.inl e)
  · exact .inl (.inr (.inl e))
  · exact .inl (.inr (.inr (.inl e)))
  · exact .inl (.inr (.inr (.inr (.inl e))))
  · exact .inl (.inr (.inr (.inr (.inr (.inl e)))))
  · obtain ⟨j, hj⟩ := List.getElem?_of_mem hs
    rcases set_get hj with ⟨_, _, rfl⟩ | ⟨_, hj⟩
    · rcases hk with hk | hk
      · rcases hf with h | ⟨g, h, hg⟩
        · exact .inl (.inr (.inr (.inr (.inr (.inr ⟨r, List.mem_of_getElem? hr, .inl (h ▸ hk)⟩)))))
        · rw [h] at hk; cases hk; exact .inr hg
      · rcases hp with h | ⟨g, h, hg⟩
        · exact .inl (.inr (.inr (.inr (.inr (.inr ⟨r, List.mem_of_getElem? hr, .inr (h ▸ hk)⟩)))))
        · rw [h] at hk; cases hk; exact .inr hg
    · exact .inl (.inr (.inr (.inr (.inr (.inr ⟨s, List.mem_of_getElem? hj, hk⟩)))))
theorem parts {w : World} {B K m1 m2 m3 : Nat} {sl : Value} {L : List Rw} {c1 c2 c3 : Value → Option Int} (hC : Core w B K m1 m2 m3 sl L c1 c2 c3) : ∃ ao cap, sl = .slice ao L.length cap := by
  rcases row_shape hC.row with ⟨h, h'⟩ | ⟨b, c, h, _⟩
  · exact ⟨none, 0, by rw [h, h']⟩
  · exact ⟨_, _, h⟩
theorem get_map {L : List Rw} {i : Nat} {r : Nd} (h : (L.map Rw.nd)[i]? = some r) : ∃ s, L[i]? = some s ∧ s.nd = r := by
  rw [List.getElem?_map] at h
  exact Option.map_eq_some_iff.1 h
end Go.Proofs.Ythpkbeooplpinaa
