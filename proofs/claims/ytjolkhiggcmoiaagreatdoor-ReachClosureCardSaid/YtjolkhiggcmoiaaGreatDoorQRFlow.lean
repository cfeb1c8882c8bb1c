/-
  flow: from a row along steps, whatever its two functions are.
-/
import Derived.Test.YtjolkhiggcmoiaaGreatDoorQLine
import Derived.Test.YtjolkhiggcmoiaaGreatDoorQRMath
import Derived.Deep.LoopGhost
import Derived.Deep.AppendLies
import Derived.OwnWalk
import Derived.Laws.OwnMore
namespace Go.Proofs.YtjolkhiggcmoiaaGreatDoor
open Go.RowKit Go.Shelf
set_option linter.unusedVariables false
set_option linter.unusedSimpArgs false
theorem ncells_snoc (l : List Nat) (x : Nat) : ncells (l ++ [x]) = ncells l ++ [.int .i64 (x : Nat)] := by simp [ncells]
/-! A slice of numbers of the call's own: its last one cut off. -/
theorem cut_row {w : World} {base m cap g : Nat} {e : TypeId} {xs : List Value} {u : Value} (h : w.ownsRow base e 1 (.slice (some ⟨g, 0, none⟩) (m + 1) cap) (m + 1) (xs ++ [u])) : w.ownsRow base e 1 (.slice (some ⟨g, 0, none⟩) m cap) m xs := by
  have hl := h.1
  simp at hl
  refine ⟨by omega, ?_⟩
  rcases h.2 with ⟨h0, _⟩ | ⟨g', cap', cur, hv, hbb, hh, h1, h2, h3, h4⟩
  · cases h0
  · refine .inr ⟨g', cap', cur, ?_, hbb, hh, by omega, h2, h3, ?_⟩
    · injection hv with e1 e2 e3
      rw [e1, e3]
    · have : (cur.toList.take ((m + 1) * 1)).take (m * 1) = (xs ++ [u]).take (m * 1) := by rw [h4]
      rw [List.take_take] at this
      rw [show min (m * 1) ((m + 1) * 1) = m * 1 by omega] at this
      rw [this, List.take_append_of_le_length (by omega), List.take_of_length_le (by omega)]
theorem last_row {w : World} {base m cap g : Nat} {e : TypeId} {xs : List Value} {u : Value} (h : w.ownsRow base e 1 (.slice (some ⟨g, 0, none⟩) (m + 1) cap) (m + 1) (xs ++ [u])) : w.cell? ⟨g, m, none⟩ = some u := by
  have hl := h.1
  simp at hl
  rw [h.cellAt m (by omega), List.getElem?_append_right (by omega)]
  simp [show m - xs.length = 0 by omega]
theorem one_row {w : World} {base x : Nat} {e : TypeId} (hb : base ≤ w.heap.size) : (w.alloc (.cells #[.int .i64 (x : Int)] e)).ownsRow base e 1 (.slice (some ⟨w.heap.size, 0, none⟩) 1 1) 1 (ncells [x]) :=
  ⟨rfl, .inr ⟨_, 1, _, rfl, hb, heap_alloc_new w _, Nat.le_refl _, by decide, rfl, rfl⟩⟩
theorem row_room {w : World} {base n cap g : Nat} {e : TypeId} {size : Nat} {xs : List Value} (h : w.ownsRow base e size (.slice (some ⟨g, 0, none⟩) n cap) n xs) : n ≤ cap := by
  rcases h.2 with ⟨h0, _⟩ | ⟨g', cap', cur, hv, _, _, h1, _⟩
  · cases h0
  · injection hv with e1 e2 e3
    omega
theorem nat_row {w : World} {base n cap g k x : Nat} {e : TypeId} {X : List Nat} (h : w.ownsRow base e 1 (.slice (some ⟨g, 0, none⟩) n cap) n (ncells X)) (hk : X[k]? = some x) : w.cell? ⟨g, k, none⟩ = some (.int .i64 (x : Int)) := by
  have hl := h.1
  have hk2 := (List.getElem?_eq_some_iff.1 hk).1
  rw [ncells_len] at hl
  rw [h.cellAt k (by omega)]
  exact ncells_at hk
/-! What is met, and what is still to be looked at. -/
def addG (B G : Nat → Bool) (j : Nat) : Nat → Bool := fun r => G r || (decide (r = j) && !(B j))
theorem addG_iff {B G : Nat → Bool} {j r : Nat} : addG B G j r = true ↔ G r = true ∨ (r = j ∧ B j = false) := by
  unfold addG
  simp only [Bool.or_eq_true, Bool.and_eq_true, decide_eq_true_eq, Bool.not_eq_true']
theorem addG_old {B G : Nat → Bool} {j : Nat} (h : (B j || G j) = true) : addG B G j = G := funext fun r => by
  rw [Bool.eq_iff_iff, addG_iff]
  refine ⟨fun e => e.elim id ?_, .inl⟩
  rintro ⟨rfl, h2⟩
  rw [h2, Bool.false_or] at h
  exact h
def unm (s : Nat) (G : Nat → Bool) : Nat := (List.range s).countP fun x => !(G x)
theorem unm_le (s : Nat) (G : Nat → Bool) : unm s G ≤ s := by
  have := List.countP_le_length (p := fun x => !(G x)) (l := List.range s)
  simpa [unm] using this
theorem countP_less {p q : Nat → Bool} : ∀ {l : List Nat}, (∀ x ∈ l, p x = true → q x = true) → (∃ x ∈ l, q x = true ∧ p x = false) → l.countP p < l.countP q
  | [], _, ⟨x, hx, _⟩ => by cases hx
  | a :: l, h, ⟨x, hx, h1, h2⟩ => by
    rw [List.countP_cons, List.countP_cons]
    have hm : l.countP p ≤ l.countP q := List.countP_mono_left fun x hx hp => h x (by simp [hx]) hp
    rcases List.mem_cons.1 hx with rfl | hx
    · rw [h1, h2]; simp; omega
    · have ih := countP_less (fun x hx hp => h x (by simp [hx]) hp) ⟨x, hx, h1, h2⟩
      have := h a (by simp)
      cases ha : p a
      · cases hq : q a <;> simp <;> omega
      · rw [this ha]; simp; omega
theorem unm_add {s : Nat} {B G : Nat → Bool} {j : Nat} (hj : j < s) (h : (B j || G j) = false) : unm s (addG B G j) + 1 ≤ unm s G := by
  rw [Bool.or_eq_false_iff] at h
  refine countP_less (fun x _ hp => ?_) ⟨j, List.mem_range.2 hj, by rw [h.2]; rfl, ?_⟩
  · cases hg : G x
    · rfl
    · have : addG B G j x = true := addG_iff.2 (.inl hg)
      rw [this] at hp
      exact hp
  · have : addG B G j j = true := addG_iff.2 (.inr ⟨rfl, h.1⟩)
    rw [this]; rfl
structure FS (s f : Nat) (B G0 : Nat → Bool) (nx : Nat → List Nat) (l : List Nat) (G : Nat → Bool) (x : Option Nat) (q : Nat) : Prop where
  lt : ∀ y ∈ l, y < s
  old : ∀ y, G0 y = true → G y = true
  reach : ∀ P : Nat → Prop, P f → (∀ a b, P a → b ∈ nx a → P b) → ∀ y, (y ∈ l ∨ x = some y ∨ (G y = true ∧ G0 y = false)) → P y
  done : ∀ y, (y = f ∨ (G y = true ∧ G0 y = false)) → y ∈ l ∨ x = some y ∨ ∀ j ∈ nx y, B j = true ∨ G j = true
  here : ∀ y, x = some y → y < s ∧ ∀ t j, t < q → (nx y)[t]? = some j → B j = true ∨ G j = true
  inn : ∀ y, (y ∈ l ∨ x = some y) → y = f ∨ (G y = true ∧ G0 y = false)
  step : ∀ y, G y = true → G0 y = false → ∃ a, (a = f ∨ (G a = true ∧ G0 a = false)) ∧ y ∈ nx a
theorem FS.start {s f : Nat} {B G0 : Nat → Bool} {nx : Nat → List Nat} (hf : f < s) : FS s f B G0 nx [f] G0 none 0 where
  lt := fun y hy => by rw [List.mem_singleton] at hy; omega
  old := fun _ h => h
  reach := fun P h1 _ y h => by
    rcases h with h | h | ⟨h, h2⟩
    · rw [List.mem_singleton] at h; rw [h]; exact h1
    · cases h
    · rw [h] at h2; cases h2
  done := fun y h => by
    rcases h with h | ⟨h, h2⟩
    · exact .inl (List.mem_singleton.2 h)
    · rw [h] at h2; cases h2
  here := fun y h => by cases h
  inn := fun y h => by
    rcases h with h | h
    · exact .inl (List.mem_singleton.1 h)
    · cases h
  step := fun y h h2 => by rw [h] at h2; cases h2
theorem FS.pop {s f : Nat} {B G0 G : Nat → Bool} {nx : Nat → List Nat} {l : List Nat} {y q : Nat} (h : FS s f B G0 nx (l ++ [y]) G none q) : FS s f B G0 nx l G (some y) 0 where
  lt := fun z hz => h.lt z (List.mem_append_left _ hz)
  old := h.old
  reach := fun P h1 h2 z hz => h.reach P h1 h2 z (by
    rcases hz with hz | hz | hz
    · exact .inl (List.mem_append_left _ hz)
    · cases hz; exact .inl (List.mem_append_right _ (List.mem_singleton.2 rfl))
    · exact .inr (.inr hz))
  done := fun z hz => by
    rcases h.done z hz with h | h | h
    · rcases List.mem_append.1 h with h | h
      · exact .inl h
      · rw [List.mem_singleton] at h; rw [h]; exact .inr (.inl rfl)
    · cases h
    · exact .inr (.inr h)
  here := fun z hz => by
    cases hz
    exact ⟨h.lt _ (List.mem_append_right _ (List.mem_singleton.2 rfl)), fun t j ht => absurd ht (Nat.not_lt_zero _)⟩
  inn := fun z hz => h.inn z (.inl (by
    rcases hz with hz | hz
    · exact List.mem_append_left _ hz
    · cases hz; exact List.mem_append_right _ (List.mem_singleton.2 rfl)))
  step := h.step
theorem FS.turn {s f : Nat} {B G0 G : Nat → Bool} {nx : Nat → List Nat} {l : List Nat} {y q j : Nat} (h : FS s f B G0 nx l G (some y) q) (hj : (nx y)[q]? = some j) (hjs : j < s) :
    FS s f B G0 nx (if (B j || G j) = true then l else l ++ [j]) (addG B G j) (some y) (q + 1) := by
  have hmem : j ∈ nx y := List.mem_of_getElem? hj
  by_cases hb : (B j || G j) = true
  · rw [if_pos hb, addG_old hb]
    refine ⟨h.lt, h.old, h.reach, h.done, fun z hz => ⟨(h.here z hz).1, fun t i ht hi => ?_⟩, h.inn, h.step⟩
    by_cases e : t = q
    · cases hz
      subst e
      rw [hj] at hi
      cases hi
      exact Bool.or_eq_true _ _ ▸ hb
    · exact (h.here z hz).2 t i (by omega) hi
  · have hb2 : (B j || G j) = false := by simpa using hb
    rw [if_neg hb]
    rw [Bool.or_eq_false_iff] at hb2
    have hup : ∀ i, B i = true ∨ G i = true → B i = true ∨ addG B G j i = true := fun i hi => hi.imp id fun h => addG_iff.2 (.inl h)
    refine ⟨fun z hz => ?_, fun z hz => addG_iff.2 (.inl (h.old z hz)), fun P h1 h2 z hz => ?_, fun z hz => ?_, fun z hz => ⟨(h.here z hz).1, fun t i ht hi => ?_⟩, fun z hz => ?_, fun z hz hz2 => ?_⟩
    rotate_left 4
    · have hup2 : ∀ z, z = f ∨ (G z = true ∧ G0 z = false) → z = f ∨ (addG B G j z = true ∧ G0 z = false) := fun z hz => hz.imp id fun hz => ⟨addG_iff.2 (.inl hz.1), hz.2⟩
      rcases hz with hz | hz
      · rcases List.mem_append.1 hz with hz | hz
        · exact hup2 z (h.inn z (.inl hz))
        · rw [List.mem_singleton] at hz
          subst hz
          refine .inr ⟨addG_iff.2 (.inr ⟨rfl, hb2.1⟩), ?_⟩
          cases h0 : G0 z
          · rfl
          · have := h.old z h0
            rw [hb2.2] at this
            cases this
      · exact hup2 z (h.inn z (.inr hz))
    · have hup2 : ∀ z, z = f ∨ (G z = true ∧ G0 z = false) → z = f ∨ (addG B G j z = true ∧ G0 z = false) := fun z hz => hz.imp id fun hz => ⟨addG_iff.2 (.inl hz.1), hz.2⟩
      rcases addG_iff.1 hz with hz | ⟨hz, _⟩
      · obtain ⟨a, ha, hn⟩ := h.step z hz hz2
        exact ⟨a, hup2 a ha, hn⟩
      · exact ⟨y, hup2 y (h.inn y (.inr rfl)), hz ▸ hmem⟩
    · rcases List.mem_append.1 hz with hz | hz
      · exact h.lt z hz
      · rw [List.mem_singleton] at hz; omega
    · have hy : P y := h.reach P h1 h2 y (.inr (.inl rfl))
      have hjP : P j := h2 y j hy hmem
      rcases hz with hz | hz | ⟨hz, hz2⟩
      · rcases List.mem_append.1 hz with hz | hz
        · exact h.reach P h1 h2 z (.inl hz)
        · rw [List.mem_singleton] at hz; rw [hz]; exact hjP
      · exact h.reach P h1 h2 z (.inr (.inl hz))
      · rcases addG_iff.1 hz with hz | ⟨hz, _⟩
        · exact h.reach P h1 h2 z (.inr (.inr ⟨hz, hz2⟩))
        · rw [hz]; exact hjP
    · have : (z = f ∨ (G z = true ∧ G0 z = false)) ∨ z = j := by
        rcases hz with hz | ⟨hz, hz2⟩
        · exact .inl (.inl hz)
        · rcases addG_iff.1 hz with hz | ⟨hz, _⟩
          · exact .inl (.inr ⟨hz, hz2⟩)
          · exact .inr hz
      rcases this with hz | hz
      · rcases h.done z hz with h | h | h
        · exact .inl (List.mem_append_left _ h)
        · exact .inr (.inl h)
        · exact .inr (.inr fun i hi => hup i (h i hi))
      · exact .inl (List.mem_append_right _ (List.mem_singleton.2 hz))
    · by_cases e : t = q
      · cases hz
        subst e
        rw [hj] at hi
        cases hi
        exact .inr (addG_iff.2 (.inr ⟨rfl, hb2.1⟩))
      · exact hup i ((h.here z hz).2 t i (by omega) hi)
theorem FS.stop {s f : Nat} {B G0 G : Nat → Bool} {nx : Nat → List Nat} {l : List Nat} {y q : Nat} (h : FS s f B G0 nx l G (some y) q) (hq : (nx y).length ≤ q) : FS s f B G0 nx l G none 0 where
  lt := h.lt
  old := h.old
  reach := fun P h1 h2 z hz => h.reach P h1 h2 z (by
    rcases hz with hz | hz | hz
    · exact .inl hz
    · cases hz
    · exact .inr (.inr hz))
  done := fun z hz => by
    rcases h.done z hz with h2 | h2 | h2
    · exact .inl h2
    · cases h2
      refine .inr (.inr fun j hj => ?_)
      obtain ⟨t, ht⟩ := List.getElem?_of_mem hj
      exact (h.here _ rfl).2 t j (by have := (List.getElem?_eq_some_iff.1 ht).1; omega) ht
    · exact .inr (.inr h2)
  here := fun z hz => by cases hz
  inn := fun z hz => h.inn z (by
    rcases hz with hz | hz
    · exact .inl hz
    · cases hz)
  step := h.step
/-- What flow asks of its two functions: what is met is G, kept in the blocks F; the blocks K are only read. -/
structure Flw (s : Nat) (B : Nat → Bool) (nx : Nat → List Nat) (K : Nat → Prop) (I : (Nat → Bool) → (Nat → Prop) → World → Prop) (rf : Nat) (rv : Value) (gf : Nat) (gl : Array Value) : Prop where
  within : ∀ x, x < s → ∀ j ∈ nx x, j < s
  few : ∀ x, (nx x).length ≤ 1024
  erow : ∀ args w, (callFunc rf args).run Tryz.prog w = .ok (.enter rf args) w
  ego : ∀ args w, (callFunc gf args).run Tryz.prog w = .ok (.enter gf args) w
  lt : ∀ G F V, I G F V → ∀ k, F k → k < V.heap.size
  still : ∀ G F V V' H, I G F V → Far H V V' → (∀ k, F k → ¬ H k) → (∀ k, K k → ¬ H k) → I G F V'
  row : ∀ G F V, I G F V → ∀ x, x < s → Calls Tryz.prog rf #[rv, .int .i64 (x : Nat)] V fun e w' => ∃ v en, e = .returned (.tuple #[v, en]) ∧ w'.ownsRow V.heap.size 3 1 v (nx x).length (ncells (nx x)) ∧ Far (fun _ => False) V w'
  go : ∀ G F V, I G F V → ∀ x j, x < s → j < s → Calls Tryz.prog gf (#[.int .i64 (x : Nat), .int .i64 (j : Nat)] ++ gl) V fun e w' => e = .returned (.bool (!(B j || G j))) ∧ ∃ F', I (addG B G j) F' w' ∧ Mv V w' F F'
section
set_option maxHeartbeats 8000000
set_option maxRecDepth 100000
theorem flow_any {s : Nat} {B : Nat → Bool} {nx : Nat → List Nat} {K : Nat → Prop} {I : (Nat → Bool) → (Nat → Prop) → World → Prop} {rf : Nat} {rv : Value} {gf : Nat} {gl : Array Value} (hs : s ≤ 1024) (h : Flw s B nx K I rf rv gf gl) {G0 : Nat → Bool} {F0 : Nat → Prop} {w : World} (hI : I G0 F0 w) (hK : ∀ k, K k → k < w.heap.size) {f : Nat} (hf : f < s) :
    Calls Tryz.prog 30 #[.func (.func rf) #[rv] #[], .int .i64 (f : Nat), .func (.func gf) #[] gl] w fun e w' => e = .returned (.tuple #[]) ∧ ∃ G F, FS s f B G0 nx [] G none 0 ∧ I G F w' ∧ Mv w w' F0 F := by
  obtain ⟨i0, hi, hz0, hz1, hz2⟩ := info_parts int_info
  have erow := h.erow
  have ego := h.ego
  have H := Lib.hid h
  have HI := Lib.hid hI
  have hlt0 := Lib.hid (h.lt _ _ _ hI)
  have hK' := Lib.hid hK
  clear h hI hK
  obtain ⟨W1, hW1⟩ : ∃ V, V = w.alloc (.cells #[.int .i64 (f : Nat)] 3) := ⟨_, rfl⟩
  obtain ⟨g1, hg1⟩ : ∃ g, g = w.heap.size := ⟨_, rfl⟩
  have ho1 : W1.ownsRow w.heap.size 3 1 (.slice (some ⟨g1, 0, none⟩) 1 1) 1 (ncells [f]) := by rw [hW1, hg1]; exact one_row (Nat.le_refl _)
  have hf1 : Far (fun _ => False) w W1 := hW1 ▸ (Far.refl _ w).alloc _
  have hW1' := Lib.hid hW1
  have hg1' := Lib.hid hg1
  have ho1' := Lib.hid ho1
  have hf1' := Lib.hid hf1
  clear hW1 hg1 ho1 hf1
  go_enter Tryz.func30, Tryz.ntmps30
  go_wp2_with fail
  go_step3
  go_wp2_with fail
  rw [← hg1'.out, ← hW1'.out]
  go_step3
  go_wp2_with fail
  go_loopg [6] (2 * unm s G0 + 1) (fun m lv wr => ∃ (g cap n : Nat) (l : List Nat) (G : Nat → Bool) (F : Nat → Prop), lv = .slice (some ⟨g, 0, none⟩) n cap ∧ wr.ownsRow w.heap.size 3 1 lv n (ncells l) ∧ m = 2 * unm s G + n ∧ m ≤ 2 * s + 1 ∧ FS s f B G0 nx l G none 0 ∧ I G F wr ∧ ¬ F g ∧ Mv w wr F0 F)
  case atStart =>
    have hu := unm_le s G0
    have hg := hg1'.out
    exact ⟨g1, 1, 1, [f], G0, F0, rfl, ho1'.out, rfl, by omega, FS.start hf, H.out.still _ _ _ _ _ HI.out hf1'.out (fun _ _ h => h) (fun _ _ h => h), fun h => by have := hlt0.out _ h; omega, Mv.still hf1'.out⟩
  case round =>
    clear HI hW1' ho1' hf1'
    obtain ⟨g, cap, n, l, G, F, rfl, hO, hm, hm2, hS, hI, hgF, hMv⟩ := hrel
    have HO := Lib.hid hO
    have HM := Lib.hid hm
    have HS := Lib.hid hS
    have HI := Lib.hid hI
    have HgF := Lib.hid hgF
    have HMv := Lib.hid hMv
    obtain ⟨wo, hwo⟩ : ∃ wo, wo = wr := ⟨_, rfl⟩
    rw [← hwo] at HO HI HMv ⊢
    clear hO hm hS hI hgF hMv hwo
    by_cases hn : n = 0
    · have hL : l = [] := List.eq_nil_of_length_eq_zero (by have := HO.out.1; rw [hn] at this; simpa [ncells] using this)
      subst hn
      subst hL
      go_wp2_with fail
      simp only [Exit.noGoto]
      refine bodyPost_end (results_none rfl _ _ _) rfl ?_
      exact ⟨rfl, G, F, HS.out, HI.out, HMv.out⟩
    · obtain ⟨q, rfl⟩ : ∃ q, n = q + 1 := ⟨n - 1, by omega⟩
      obtain ⟨l, x, rfl⟩ : ∃ (l' : List Nat) (x : Nat), l = l' ++ [x] := by
        have hl := HO.out.1
        simp [ncells] at hl
        exact ⟨l.dropLast, l.getLast (by intro e; subst e; simp at hl), (List.dropLast_concat_getLast _).symm⟩
      have hO : wo.ownsRow w.heap.size 3 1 (.slice (some ⟨g, 0, none⟩) (q + 1) cap) (q + 1) (ncells l ++ [.int .i64 (x : Int)]) := by have := HO.out; rwa [ncells_snoc] at this
      have hcq := last_row hO
      have HQ := Lib.hid (cut_row hO)
      have hqc : q + 1 ≤ cap := row_room hO
      have hqc2 : q ≤ cap := by omega
      have hc0 : ¬ cap = 0 := by omega
      have hq : q ≤ 2050 := by have := HM.out; omega
      have hwq : wrap64 (q : Int) = q := by simp only [wrap64]; omega
      have hne : ((((q + 1 : Nat) : Int)) == 0) = false := by simp; omega
      have HP := Lib.hid HS.out.pop
      have hxs : x < s := (HS.out.pop.here x rfl).1
      have RW := H.out.row _ _ _ HI.out x hxs
      clear hO HO HS
      go_wp2_with fail
      refine RW.mono ?_
      rintro e w1 ⟨nv, en, rfl, hnO, hf1⟩
      have hFw := fun k hk => H.out.lt _ _ _ HI.out k hk
      have hgw : g < wo.heap.size := (HQ.out.lt g rfl).2
      obtain ⟨N, hN⟩ : ∃ N, (nx x).length = N := ⟨_, rfl⟩
      have hN1024 : N ≤ 1024 := by rw [← hN]; exact H.out.few x
      rw [hN] at hnO
      obtain ⟨no, nc, rfl⟩ := q_form hnO
      have hnlt := fun k hk => (hnO.lt k hk).1
      have HI1 := Lib.hid (H.out.still _ _ _ _ _ HI.out hf1 (fun _ _ h => h) fun _ _ h => h)
      have HO1 := Lib.hid (row_same HQ.out fun k hk hl => hf1.block k hl id)
      have HN1 := Lib.hid hnO
      have HMv1 := Lib.hid (HMv.out.trans (Mv.still hf1))
      have HA1 := Lib.hid (show ∀ k, (Value.slice no N nc).ownBlock = some k → ¬ F k ∧ k ≠ g from fun k hk => ⟨fun h => by have := hFw k h; have := hnlt k hk; omega, by have := hnlt k hk; omega⟩)
      have hN' := Lib.hid hN
      clear RW hnO hf1 hFw hgw hN hnlt hcq HI HQ HMv hne
      go_wp2_with fail
      go_loopw [6, 36] (fun lv iv wr => ∃ (g cap n p : Nat) (l : List Nat) (G : Nat → Bool) (F : Nat → Prop), lv = .slice (some ⟨g, 0, none⟩) n cap ∧ iv = .int .i64 (p : Nat) ∧ p ≤ N ∧ wr.ownsRow w.heap.size 3 1 lv n (ncells l) ∧ 2 * unm s G + n < gk ∧ FS s f B G0 nx l G (some x) p ∧ I G F wr ∧ ¬ F g ∧ Mv w wr F0 F ∧ wr.ownsRow wo.heap.size 3 1 (.slice no N nc) N (ncells (nx x)) ∧ (∀ k, (Value.slice no N nc).ownBlock = some k → ¬ F k ∧ k ≠ g)) (fun _ iv _ => N - (intOf iv).toNat)
      case atStart => exact ⟨g, cap, q, 0, l, G, F, rfl, rfl, by omega, HO1.out, by have := HM.out; omega, HP.out, HI1.out, HgF.out, HMv1.out, HN1.out, HA1.out⟩
      case round =>
        clear HI1 HO1 HN1 HMv1 HA1 HP HM HgF hqc hqc2 hc0 hq hwq
        obtain ⟨g, cap, n, p, l, G, F, rfl, rfl, hp, hO, hm, hS, hI, hgF, hMv, hnO, hA⟩ := hrel
        have HO := Lib.hid hO
        have HM := Lib.hid hm
        have HS := Lib.hid hS
        have HI := Lib.hid hI
        have HgF := Lib.hid hgF
        have HMv := Lib.hid hMv
        have HnO := Lib.hid hnO
        have HA := Lib.hid hA
        obtain ⟨wi, hwi⟩ : ∃ wi, wi = wr := ⟨_, rfl⟩
        rw [← hwi] at HO HI HMv HnO ⊢
        clear hO hm hS hI hgF hMv hnO hA hwi
        by_cases hpN : p < N
        · have hpi : (p : Int) < (N : Int) := by omega
          have hpb : (p : Int) + 1 ≤ 9223372036854775807 := by omega
          obtain ⟨g2, c2, e2, _⟩ := HnO.out.form (by omega)
          obtain ⟨j, hj⟩ : ∃ j, (nx x)[p]? = some j := ⟨_, List.getElem?_eq_getElem (by rw [hN'.out]; exact hpN)⟩
          cases e2
          have hcj := nat_row HnO.out hj
          have hjs := H.out.within x hxs j (List.mem_of_getElem? hj)
          have GO := H.out.go _ _ _ HI.out x j hxs hjs
          have hg2 : g2 < wi.heap.size := (HnO.out.lt g2 rfl).2
          have hgi : g < wi.heap.size := (HO.out.lt g rfl).2
          have HT := Lib.hid (HS.out.turn hj hjs)
          have hFlt := Lib.hid (H.out.lt _ _ _ HI.out)
          clear hj HS HI
          go_wp2_with fail
          refine GO.mono ?_
          rintro e w2 ⟨rfl, F2, hI2, hm2⟩
          have hA := HA.out g2 rfl
          have hgF2 : ¬ F2 g := fun h => (hm2.more g h).elim HgF.out fun h => by omega
          have hg2F2 : ¬ F2 g2 := fun h => (hm2.more g2 h).elim hA.1 fun h => by omega
          have HO2 := Lib.hid (row_same HO.out fun k hk hl => hm2.far.block k hl (by cases hk; exact HgF.out))
          have HN2 := Lib.hid (row_same HnO.out fun k hk hl => hm2.far.block k hl (by cases hk; exact hA.1))
          have HMv2 := Lib.hid (HMv.out.trans hm2)
          have HI2 := Lib.hid hI2
          have hsz2 := hm2.far.size
          clear GO hI2 hm2 hcj
          cases hb : (B j || G j) with
          | true =>
            rw [hb, if_pos rfl, addG_old hb] at HT
            rw [addG_old hb] at HI2
            go_wp2_with fail
            go_roundw
            case rel => exact ⟨g, cap, n, p + 1, l, G, F2, rfl, by go_num, by omega, HO2.out, HM.out, HT.out, HI2.out, hgF2, HMv2.out, HN2.out, fun k hk => by cases hk; exact ⟨hg2F2, hA.2⟩⟩
            case measure => simp only [intOf]; omega
          | false =>
            rw [hb, if_neg (by simp)] at HT
            have hum := unm_add hjs hb
            have A1 := Lib.hid (HO2.out.alloc (.cells #[.int .i64 (j : Nat)] 3))
            have A2 := Lib.hid (World.news_of_block (w := w2.alloc (.cells #[.int .i64 (j : Nat)] 3)) (cs := #[.int .i64 (j : Nat)]) (t := 3) (fr := (0, 0)) (heap_alloc_new w2 _))
            have A3 : ∀ u ∈ (#[.int .i64 (j : Nat)] : Array Value).toList, u.oneCell' = true := fun u hu => by simp at hu; subst hu; rfl
            have A4 : n + 1 ≤ maxLen := by have := HM.out; unfold maxLen; omega
            have A5 : (n + 1) * 8 ≤ 140737488355328 := by have := HM.out; omega
            have A7 : w.heap.size ≤ (w2.alloc (.cells #[.int .i64 (j : Nat)] 3)).heap.size := by have := HMv2.out.far.size; simp; omega
            go_wp2_with (at_builtin; refine wpList_append_lies _ rfl _ _ 30 rfl w.heap.size 3 i0 _ 1 8 Tryz.underlying30 hi hz0 hz1 hz2 rfl (by decide) (.slice (some ⟨g, 0, none⟩) n cap) n _ rfl A1.out ⟨w2.heap.size, 0, none⟩ 1 1 (#[.int .i64 (j : Nat)] : Array Value).toList rfl rfl A2.out A3 (by decide) A4 A5 A7 _ rfl ?_; intro fg fc w4 ho4 hg4 hat4 hl4; have ho4' := Lib.hid ho4; have hg4' := Lib.hid hg4; have hat4' := Lib.hid hat4; clear ho4 hg4 hat4)
            have hf4 : Far (fun k => k = g) w2 w4 := ((Far.refl (fun k => k = g) w2).alloc _).grown hg4'.out fun k _ e => by cases e; rfl
            have hnew : fg = g ∨ w2.heap.size ≤ fg := by
              rcases hat4'.out with e | e
              · cases e; exact .inl rfl
              · exact .inr (by rw [e, World.size_alloc]; omega)
            have hgw := (HO2.out.lt g rfl).1
            have ho5 := ho4'.out
            rw [show ncells l ++ (#[.int .i64 (j : Nat)] : Array Value).toList = ncells (l ++ [j]) by rw [ncells_snoc]] at ho5
            have hFlt2 := H.out.lt _ _ _ HI2.out
            have hHt := HT.out
            go_roundw
            case rel =>
              refine ⟨fg, fc, n + 1, p + 1, l ++ [j], addG B G j, F2, rfl, by go_num, by omega, ho5, by have := HM.out; omega, hHt, H.out.still _ _ _ _ _ HI2.out hf4 (fun k hk e => hgF2 (e ▸ hk)) (fun k hk e => by have := hK'.out k hk; omega), ?_, ⟨HMv2.out.far.trans hf4 fun k hk e => by omega, HMv2.out.more⟩, row_same HN2.out fun k hk hl => hf4.block k hl (by cases hk; exact hA.2), fun k hk => ?_⟩
              · rcases hnew with rfl | h
                · exact hgF2
                · exact fun h2 => by have := hFlt2 _ h2; omega
              · cases hk
                refine ⟨hg2F2, ?_⟩
                rcases hnew with rfl | h
                · exact hA.2
                · show g2 ≠ fg
                  omega
            case measure => simp only [intOf]; omega
        · have hpe : p = N := by omega
          subst hpe
          have hpi : ¬ (p : Int) < (p : Int) := by omega
          go_wp2_with fail
          go_roundg (2 * unm s G + n)
          case measure => exact HM.out
          case rel => exact ⟨g, cap, n, l, G, F, rfl, HO.out, rfl, by have := HM.out; omega, HS.out.stop (by rw [hN'.out]; exact Nat.le_refl _), HI.out, HgF.out, HMv.out⟩
end
end Go.Proofs.YtjolkhiggcmoiaaGreatDoor
