/-
  The weak form under way: its state in memory, its counter, one production more.
-/
import Derived.Test.YtjkfieilaahejaaPlain
import Derived.Test.YtjkfieilaahejaaTallyI
import Derived.Test.YtjkfieilaahejaaGood13
namespace Go.Proofs.Ytjkfieilaahejaa
open Go.RowKit
open Go.Maps (Keyed)
set_option linter.unusedVariables false
set_option linter.unusedSimpArgs false
/-- The weak form under way: how many nonterminals; of each label its helper; the empty helper; the productions. -/
structure Fs where
  n : Nat
  lab : Nat → Option Nat
  e : Option Nat
  ps : List (Int × List Sy)
def oI : Option Nat → Option Int
  | none => none
  | some k => some (k : Int)
def eI : Option Nat → Int
  | none => -1
  | some k => k
/-- Block k holds no symbols. -/
def NoSym (w : World) (k : Nat) : Prop := ∀ cs fr, w.heap[k]? ≠ some (.cells cs 50 fr)
/-- A body that lies in no block of av. -/
def FB (w : World) (av : Nat → Prop) (v : Value) (l : List Sy) : Prop := Body w v l ∧ ∀ a n c, v = .slice (some a) n c → l ≠ [] → a.block < w.heap.size ∧ ¬ av a.block ∧ ∃ cs fr, w.heap[a.block]? = some (.cells cs 50 fr)
theorem FB.go {w w' : World} {F av av' : Nat → Prop} {v : Value} {l : List Sy} (h : FB w av v l) (hf : Far F w w') (hF : ∀ k, k < w.heap.size → F k → av k ∨ NoSym w k) (hv : ∀ k, k < w.heap.size → av' k → av k) : FB w' av' v l := by
  have key : ∀ a n c, v = .slice (some a) n c → l ≠ [] → ¬ F a.block := fun a n c e hl q => by
    obtain ⟨h3, h4, cs, fr, h5⟩ := h.2 a n c e hl
    rcases hF _ h3 q with h6 | h6
    · exact h4 h6
    · exact h6 cs fr h5
  refine ⟨?_, fun a n c e hl => ?_⟩
  · obtain ⟨h1, h2 | ⟨a, c, rfl, h2⟩⟩ := h.1
    · exact ⟨h1, .inl h2⟩
    · refine ⟨h1, .inr ⟨a, c, rfl, fun j u hu => ?_⟩⟩
      have hl : l ≠ [] := fun e => by
        have := (List.getElem?_eq_some_iff.1 hu).1
        rw [scells_len, e] at this; simp at this
      obtain ⟨hb, hc⟩ := h2 j u hu
      exact ⟨Nat.lt_of_lt_of_le hb hf.size, (cell_eq (by rw [add_block]; exact hf.block _ hb (key a _ c rfl hl))).trans hc⟩
  · obtain ⟨h3, h4, cs, fr, h5⟩ := h.2 a n c e hl
    exact ⟨Nat.lt_of_lt_of_le h3 hf.size, fun q => h4 (hv _ h3 q), cs, fr, (hf.block _ h3 (key a n c e hl)).trans h5⟩
theorem FB.own {w : World} {av : Nat → Prop} {base : Nat} {v : Value} {l : List Sy} (h : w.ownsRow base 50 2 v l.length (scells l)) (hv : ∀ k, base ≤ k → ¬ av k) : FB w av v l :=
  ⟨Src.own h, fun a n c e _ => by
    subst e
    rcases h.2 with ⟨h1, _⟩ | ⟨g, cap, cur, h1, hg, h2, _⟩
    · cases h1
    · cases h1
      exact ⟨(Array.getElem?_eq_some_iff.1 h2).1, hv _ hg, _, _, h2⟩⟩
theorem FB.nil (w : World) (av : Nat → Prop) : FB w av (.slice none 0 0) [] := ⟨Src.nil _ _, fun a n c e => by cases e⟩
/-- A new block of symbols. -/
theorem FB.new (w : World) (av : Nat → Prop) (l : List Sy) (hav : ∀ k, av k → k < w.heap.size) : FB (w.alloc (.cells (scells l).toArray 50)) av (.slice (some ⟨w.heap.size, 0, none⟩) l.length l.length) l := by
  have hb := heap_alloc_new w (.cells (scells l).toArray 50)
  refine ⟨⟨scells_len l, .inr ⟨_, _, rfl, fun j u hu => ⟨by simp, ?_⟩⟩⟩, fun a n c e _ => ?_⟩
  · exact World.news_of_block (w := w.alloc (.cells (scells l).toArray 50)) (cs := (scells l).toArray) (t := 50) (fr := (0, 0)) hb j u (by simpa using hu)
  · cases e
    exact ⟨by simp, fun q => by have := hav _ q; simp at this, _, _, hb⟩
/-- The method value that counts. -/
def wantV (cB : Nat) : Value := .func (.func 33) #[.pointer (some ⟨cB, 0, none⟩)] #[]
structure Fm (w : World) (B fB cB mB : Nat) (av : Nat → Prop) (qv : Value) (T : List Tr) (s : Fs) : Prop where
  f : Bk w fB 65 #[wantV cB, .map (some mB), .int .i64 (eI s.e), qv]
  c : Bk w cB 60 #[.int .i64 (s.n : Int)]
  m : ∃ c k, Tally w 3 mB k c ∧ k ≤ s.n ∧ ∀ j : Nat, c (.int .i64 (j : Int)) = oI (s.lab j)
  row : w.ownsRow B 44 2 qv T.length (tcells T)
  bod : ∀ t ∈ T, FB w av t.2.1 t.2.2
  pl : T.map pl = s.ps
  nf : ¬ av fB ∧ ¬ av cB ∧ ¬ av mB
  nq : ∀ k, qv.ownBlock = some k → ¬ av k
  lo : fB < B ∧ cB < B ∧ mB < B
  ne : fB ≠ cB ∧ fB ≠ mB ∧ cB ≠ mB
  hi : B ≤ w.heap.size
def FM (w : World) (B fB cB mB : Nat) (av : Nat → Prop) (s : Fs) : Prop := ∃ qv T, Fm w B fB cB mB av qv T s
theorem Fm.go {w w' : World} {B fB cB mB : Nat} {F av av' : Nat → Prop} {qv : Value} {T : List Tr} {s : Fs} (h : Fm w B fB cB mB av qv T s) (hf : Far F w w') (hF : ∀ k, k < w.heap.size → F k → av k) (hv : ∀ k, k < w.heap.size → av' k → av k) : Fm w' B fB cB mB av' qv T s := by
  have lm : mB < w.heap.size := by obtain ⟨c, k, hm, _⟩ := h.m; exact hm.lt
  exact {
    f := h.f.far' hf fun q => h.nf.1 (hF _ h.f.lt q)
    c := h.c.far' hf fun q => h.nf.2.1 (hF _ h.c.lt q)
    m := by
      obtain ⟨c, k, hm, h2⟩ := h.m
      exact ⟨c, k, hm.same (hf.block _ lm fun q => h.nf.2.2 (hF _ lm q)), h2⟩
    row := row_same h.row fun k hk hl => hf.block k hl fun q => h.nq k hk (hF k hl q)
    bod := fun t ht => (h.bod t ht).go hf (fun k hk q => .inl (hF k hk q)) hv
    pl := h.pl
    nf := ⟨fun q => h.nf.1 (hv _ h.f.lt q), fun q => h.nf.2.1 (hv _ h.c.lt q), fun q => h.nf.2.2 (hv _ lm q)⟩
    nq := fun k hk q => h.nq k hk (hv k (h.row.lt k hk).2 q)
    lo := h.lo
    ne := h.ne
    hi := Nat.le_trans h.hi hf.size }
theorem FM.go {w w' : World} {B fB cB mB : Nat} {F av av' : Nat → Prop} {s : Fs} (h : FM w B fB cB mB av s) (hf : Far F w w') (hF : ∀ k, k < w.heap.size → F k → av k) (hv : ∀ k, k < w.heap.size → av' k → av k) : FM w' B fB cB mB av' s := by
  obtain ⟨qv, T, h⟩ := h
  exact ⟨qv, T, h.go hf hF hv⟩
theorem FM.move {w w' : World} {B fB cB mB : Nat} {av : Nat → Prop} {s : Fs} (h : FM w B fB cB mB av s) (hf : Far (fun _ => False) w w') : FM w' B fB cB mB av s := h.go hf (fun _ _ h => h.elim) fun _ _ h => h
section
set_option maxHeartbeats 4000000
set_option maxRecDepth 100000
theorem next_any (cB n : Nat) (w : World) (hc : Bk w cB 60 #[.int .i64 (n : Int)]) (hn : n ≤ 1099511627776) :
    Calls Try.prog 33 #[.pointer (some ⟨cB, 0, none⟩)] w fun e w' => e = .returned (.int .i64 (n : Int)) ∧ w' = w.setCell ⟨cB, 0, none⟩ (.int .i64 ((n + 1 : Nat) : Int)) := by
  have c0 : w.cell? ⟨cB, 0, none⟩ = some (.int .i64 (n : Int)) := hc.cell 0
  have z0 : w.frozen? ⟨cB, 0, none⟩ = false := hc.free 0
  clear hc
  go_enter Try.func33, Try.ntmps33
  go_wp2_with fail
  go_ret
  exact ⟨rfl, by simp⟩
def addF (s : Fs) (h : Int) (l : List Sy) : Fs := { s with ps := s.ps ++ [(h, l)] }
theorem add_any (B fB cB mB : Nat) (av : Nat → Prop) (s : Fs) (h : Int) (v : Value) (l : List Sy) (w : World) (hM : FM w B fB cB mB av s) (hv : FB w av v l) (hps : s.ps.length ≤ 1099511627776) (hav : ∀ k, av k → k < w.heap.size) :
    Calls Try.prog 56 #[.pointer (some ⟨fB, 0, none⟩), .int .i64 h, v] w fun e w' => e = .returned (.tuple #[]) ∧ FM w' B fB cB mB av (addF s h l) ∧ Far (fun k => ¬ av k) w w' := by
  obtain ⟨qv, T, hm⟩ := hM
  obtain ⟨vo, vc, rfl⟩ := Src.form hv.1
  have hlen : T.length = s.ps.length := by rw [← hm.pl, List.length_map]
  have f3 : w.cell? ⟨fB, 3, none⟩ = some qv := hm.f.cell 3
  obtain ⟨pi, pz, pi1, pi2, pi3, pi4, pi5⟩ := info3 info_prod
  have A7 : 0 < 2 := by decide
  have hqk := Lib.hid (show qv.ownBlock ≠ some fB from fun e => by have := (hm.row.lt _ e).1; have := hm.lo.1; omega)
  have B1 := Lib.hid (show (w.alloc (.cells #[.int .i64 h, .slice vo l.length vc] 44)).ownsRow B 44 2 qv T.length (tcells T) from hm.row.alloc _)
  have B7 := Lib.hid (World.news_of_block (w := w.alloc (.cells #[.int .i64 h, .slice vo l.length vc] 44)) (heap_alloc_new w _))
  have B3 := Lib.hid (show ∀ u ∈ [Value.int .i64 h, .slice vo l.length vc], u.oneCell' = true by simp [Value.oneCell'])
  have B4 : T.length + 1 ≤ maxLen := by unfold maxLen; omega
  have B5 : (T.length + 1) * 32 ≤ 140737488355328 := by omega
  have B6 : B ≤ (w.alloc (.cells #[.int .i64 h, .slice vo l.length vc] 44)).heap.size := by
    have := hm.hi; simp; omega
  have hm' := Lib.hid hm
  have hv' := Lib.hid hv
  have hav' := Lib.hid hav
  have hlen' := Lib.hid hlen
  clear hm hv hav hlen hps
  go_enter Try.func56, Try.ntmps56
  go_wp2_with (at_builtin; refine wpList_append_lies _ rfl _ _ 22 rfl B 44 pi pz 2 32 Try.underlying22 pi1 pi2 pi3 pi4 pi5 A7 qv T.length _ rfl B1.out ⟨w.heap.size, 0, none⟩ 1 1 [.int .i64 h, .slice vo l.length vc] rfl rfl B7.out B3.out (by decide) B4 B5 B6 _ rfl ?_; intro g2 vc2 w5 ho5 hg5 hw5 _; have hO5 := Bk.grown (w := (w.alloc (.cells #[.int .i64 h, .slice vo l.length vc] 44))) (Bk.alloc hm'.out.f _) hg5 hqk.out; have u0 := hO5.cell 3; have u1 := hO5.free 3; have ho5' := Lib.hid ho5; have hg5' := Lib.hid hg5; have hO5' := Lib.hid hO5; have hw5' := Lib.hid hw5; clear ho5 hg5 hO5 hw5; simp at u0)
  go_end0
  have hS := (Far.refl (fun k => k = fB) w5).set ⟨fB, 3, none⟩ (.slice (some ⟨g2, 0, none⟩) (T.length + 1) vc2) (fun _ => rfl)
  have hm := hm'.out
  have hv := hv'.out
  have hF : Far (fun k => qv.ownBlock = some k ∨ k = fB) w (w5.setCell ⟨fB, 3, none⟩ (.slice (some ⟨g2, 0, none⟩) (T.length + 1) vc2)) := ((((alloc_far0 w (.cells #[.int .i64 h, .slice vo l.length vc] 44)).mono (G := fun k => qv.ownBlock = some k) fun _ _ q => q.elim).trans (grown_far hg5'.out) (fun k hk e => e)).mono (G := fun k => qv.ownBlock = some k ∨ k = fB) fun k _ e => .inl e).trans hS fun k _ e => .inr e
  have hqB : ∀ k, qv.ownBlock = some k → B ≤ k := fun k e => (hm.row.lt k e).1
  have lm : mB < w.heap.size := by obtain ⟨c, k, hm, _⟩ := hm.m; exact hm.lt
  have hno : ∀ k, k < w.heap.size → (qv.ownBlock = some k ∨ k = fB) → av k ∨ NoSym w k := fun k hk q => .inr fun cs fr e => by
    rcases q with q | q
    · rcases hm.row.2 with ⟨h1, _⟩ | ⟨g, cap, cur, h1, _, h2, _⟩
      · rw [h1] at q; cases q
      · rw [h1] at q
        obtain rfl : g = k := Option.some.inj q
        rw [h2] at e; cases e
    · subst q
      rw [show w.heap[k]? = _ from hm.f] at e
      cases e
  refine ⟨rfl, ⟨.slice (some ⟨g2, 0, none⟩) (T.length + 1) vc2, T ++ [(h, .slice vo l.length vc, l)], ?_⟩, hF.mono fun k _ q => q.elim (hm.nq k) fun e => e ▸ hm.nf.1⟩
  exact {
    f := hO5'.out.set 3 (.slice (some ⟨g2, 0, none⟩) (T.length + 1) vc2)
    c := hm.c.far' hF fun q => q.elim (fun e => by have := hqB _ e; have := hm.lo.2.1; omega) fun e => hm.ne.1 e.symm
    m := by
      obtain ⟨c, k, h1, h2⟩ := hm.m
      exact ⟨c, k, h1.same (hF.block _ lm fun q => q.elim (fun e => by have := hqB _ e; have := hm.lo.2.2; omega) fun e => hm.ne.2.1 e.symm), h2⟩
    row := by
      rw [List.length_append, tcells_app]
      exact row_far ho5'.out hS fun k e q => by have := (ho5'.out.lt k e).1; have := hm.lo.1; omega
    bod := fun t ht => (show FB w av t.2.1 t.2.2 from (List.mem_append.1 ht).elim (hm.bod t) fun e => by rw [List.mem_singleton.1 e]; exact hv).go hF hno fun _ _ q => q
    pl := by rw [List.map_append, hm.pl]; rfl
    nf := hm.nf
    nq := fun k e q => by
      obtain rfl : g2 = k := Option.some.inj e
      rcases hw5'.out with h1 | h1
      · exact hm.nq _ h1 q
      · have := hav'.out _ q
        rw [h1] at this; simp at this; omega
    lo := hm.lo
    ne := hm.ne
    hi := Nat.le_trans hm.hi hF.size }
end
end Go.Proofs.Ytjkfieilaahejaa
