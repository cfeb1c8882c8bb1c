/-
  The document's Add, its long case: the symbols' nonterminals, one by one.
-/
import Derived.Test.YtjkfieilaahejaaRLong14
import Derived.Test.YtjkfieilaahejaaForm14
namespace Go.Proofs.Ytjkfieilaahejaa
open Go.RowKit
set_option linter.unusedVariables false
set_option linter.unusedSimpArgs false
def IL (xs : List Sy) : List Value := xs.map fun x => .int .i64 x.2
theorem IL_app (a : List Sy) (x : Sy) : IL (a ++ [x]) = IL a ++ [.int .i64 x.2] := by simp [IL]
/-- Where Add's loops stand. -/
structure LP (W wr : World) (B gL cL fb pb kR : Nat) (q0 : Value) (h : Int) (pv : Value) (l : List Sy) (s' : Fs) (qv : Value) (T' : List Tr) (lv : Value) (xs : List Sy) : Prop where
  box : Bk wr fb 70 #[.int .i64 (s'.n : Int), qv, .slice (some ⟨gL, 0, none⟩) 16 cL, .int .i64 (eI s'.e)]
  prod : Bk wr pb 44 #[.int .i64 h, pv]
  res : Bk wr kR 70 #[.int .i64 0, .slice none 0 0, .slice none 0 0, .int .i64 0]
  rm : RM wr B gL cL qv T' s'
  qb : QB wr B pv l
  far : Far (fun k => OF q0 gL k ∨ fb ≤ k) W wr
  own : ∀ k, qv.ownBlock = some k → OF q0 gL k ∨ fb ≤ k
  row : wr.ownsRow W.heap.size 3 1 lv xs.length (IL xs)
  low : gL < W.heap.size ∧ pb < W.heap.size ∧ fb < W.heap.size ∧ kR < W.heap.size ∧ fb < pb ∧ pb < kR ∧ B ≤ fb
  ownp : ∀ k, qv.ownBlock = some k → k ≠ pb
theorem LP.ofBlk {W wr : World} {B gL cL fb pb kR : Nat} {q0 : Value} {h : Int} {pv : Value} {l : List Sy} {s' : Fs} {qv : Value} {T' : List Tr} {lv : Value} {xs : List Sy} (L : LP W wr B gL cL fb pb kR q0 h pv l s' qv T' lv xs) : ¬ OF qv gL fb ∧ ¬ OF qv gL kR ∧ (∀ k, lv.ownBlock = some k → ¬ OF qv gL k) := by
  refine ⟨L.rm.ne L.box (by decide) (by decide), L.rm.ne L.res (by decide) (by decide), fun k hk q => ?_⟩
  rcases q with q | q
  · exact rows_ne L.rm.row L.row (by decide) q hk
  · have := (L.row.lt k hk).1
    have := L.low.1
    omega
theorem LP.noPb {W wr : World} {B gL cL fb pb kR : Nat} {q0 : Value} {h : Int} {pv : Value} {l : List Sy} {s' : Fs} {qv : Value} {T' : List Tr} {lv : Value} {xs : List Sy} (L : LP W wr B gL cL fb pb kR q0 h pv l s' qv T' lv xs) : ¬ OF qv gL pb := by
  rintro (q | q)
  · exact L.ownp pb q rfl
  · exact own_ne L.rm.lab L.prod (by decide) (q ▸ rfl)
theorem LP.ofGo {W wr : World} {B gL cL fb pb kR : Nat} {q0 : Value} {h : Int} {pv : Value} {l : List Sy} {s' : Fs} {qv : Value} {T' : List Tr} {lv : Value} {xs : List Sy} (L : LP W wr B gL cL fb pb kR q0 h pv l s' qv T' lv xs) : ∀ k, k < wr.heap.size → OF qv gL k → B ≤ k ∧ NoSym wr k := fun k _ q => q.elim
  (fun e => ⟨(L.rm.row.lt k e).1, noSym_own L.rm.row (by decide) e⟩) fun e => e ▸ ⟨(L.rm.lab.lt gL rfl).1, noSym_own L.rm.lab (by decide) rfl⟩
/-- Behind Symbol, the form stored. -/
theorem LP.symbol {W wr w4 : World} {B gL cL fb pb kR : Nat} {q0 : Value} {h : Int} {pv : Value} {l : List Sy} {s' s4 : Fs} {qv q4 : Value} {T' T4 : List Tr} {lv : Value} {xs : List Sy} (L : LP W wr B gL cL fb pb kR q0 h pv l s' qv T' lv xs) (hM : RM w4 B gL cL q4 T4 s4) (hf : Far (OF qv gL) wr w4) (ho : ∀ i, q4.ownBlock = some i → qv.ownBlock = some i ∨ wr.heap.size ≤ i) :
    LP W ((((w4.setCell ⟨fb, 0, none⟩ (.int .i64 (s4.n : Int))).setCell ⟨fb, 1, none⟩ q4).setCell ⟨fb, 2, none⟩ (.slice (some ⟨gL, 0, none⟩) 16 cL)).setCell ⟨fb, 3, none⟩ (.int .i64 (eI s4.e))) B gL cL fb pb kR q0 h pv l s4 q4 T4 lv xs := by
  obtain ⟨n1, n2, n3⟩ := L.ofBlk
  have hX4 := L.box.far' hf n1
  obtain ⟨hB6, hM6, hS6⟩ := form_shut (.int .i64 (s4.n : Int)) q4 (.slice (some ⟨gL, 0, none⟩) 16 cL) (.int .i64 (eI s4.e)) hX4 hM L.low.2.2.2.2.2.2
  have hlow := L.low
  have hzr := L.far.size
  refine ⟨hB6, (L.prod.far' hf L.noPb).far' hS6 (by omega), (L.res.far' hf n2).far' hS6 (by omega), hM6, (L.qb.go hf L.ofGo).go hS6 fun k _ e => by subst e; exact ⟨hlow.2.2.2.2.2.2, noSym_bk hX4 (by decide)⟩, ?_, fun k hk => ?_, ?_, hlow, fun k hk => ?_⟩
  · refine (L.far.trans (hf.mono (G := fun k => OF q0 gL k ∨ fb ≤ k) fun k _ q => ?_) fun _ _ q => q).trans (hS6.mono (G := fun k => OF q0 gL k ∨ fb ≤ k) fun k _ e => .inr (by omega)) fun _ _ q => q
    rcases q with q | q
    · exact L.own k q
    · exact .inl (.inr q)
  · rcases ho k hk with e | e
    · exact L.own k e
    · exact .inr (by omega)
  · exact row_far (row_far L.row hf n3) hS6 fun k hk e => by have := (L.row.lt k hk).1; omega
  · rcases ho k hk with e | e
    · exact L.ownp k e
    · omega
/-- Behind an append to the list. -/
theorem LP.more {W wr w5 : World} {B gL cL fb pb kR : Nat} {q0 : Value} {h : Int} {pv : Value} {l : List Sy} {s' : Fs} {qv : Value} {T' : List Tr} {lv lv' : Value} {xs : List Sy} {x : Sy} (L : LP W wr B gL cL fb pb kR q0 h pv l s' qv T' lv xs) (hf : Far (fun k => lv.ownBlock = some k) wr w5) (hr : w5.ownsRow W.heap.size 3 1 lv' (xs.length + 1) (IL xs ++ [.int .i64 x.2])) :
    LP W w5 B gL cL fb pb kR q0 h pv l s' qv T' lv' (xs ++ [x]) := by
  have hlow := L.low
  have hge : ∀ k, lv.ownBlock = some k → W.heap.size ≤ k := fun k e => (L.row.lt k e).1
  have ne : ∀ k, k < W.heap.size → lv.ownBlock ≠ some k := fun k hk e => by have := hge k e; omega
  refine ⟨L.box.far' hf (ne fb hlow.2.2.1), L.prod.far' hf (ne pb hlow.2.1), L.res.far' hf (ne kR hlow.2.2.2.1), L.rm.go hf fun k _ e => ⟨by have := hge k e; omega, noSym_own L.row (by decide) e, fun q => rows_ne L.rm.row L.row (by decide) q e, fun q => by have := hge k e; omega⟩, L.qb.go hf fun k _ e => ⟨by have := hge k e; omega, noSym_own L.row (by decide) e⟩, L.far.trans (hf.mono (G := fun k => OF q0 gL k ∨ fb ≤ k) fun k _ e => .inr (by have := hge k e; omega)) fun _ _ q => q, L.own, by rw [List.length_append, IL_app]; exact hr, hlow, L.ownp⟩
theorem labsF_nts : ∀ (l : List Sy) (s : Fs), ∀ y ∈ (labsF l s).2, y.1 = false
  | [], s, y, h => by cases h
  | x :: l, s, y, h => by
    unfold labsF at h
    rcases List.mem_cons.1 h with rfl | h
    · unfold lab1
      split
      · rfl
      · rename_i hx; simpa using hx
    · exact labsF_nts l _ y h
/-- Behind a production of two, put in. -/
theorem LP.grow {W wr w8 w5 : World} {B gL cL fb pb kR g c3 : Nat} {q0 : Value} {h hd : Int} {pv v8 : Value} {l body : List Sy} {s' : Fs} {qv : Value} {T' : List Tr} {lv : Value} {xs : List Sy} (L : LP W wr B gL cL fb pb kR q0 h pv l s' qv T' lv xs) (hf8 : Far (fun _ => False) wr w8) (hq8 : QB w8 B v8 body)
    (hf : Far (fun k => qv.ownBlock = some k) (w8.alloc (.cells #[.int .i64 hd, v8] 44)) w5) (ho : w5.ownsRow B 44 2 (.slice (some ⟨g, 0, none⟩) (T'.length + 1) c3) (T'.length + 1) (tcells T' ++ [.int .i64 hd, v8])) (hg : qv.ownBlock = some g ∨ g = (w8.alloc (.cells #[.int .i64 hd, v8] 44)).heap.size) :
    LP W (w5.setCell ⟨fb, 1, none⟩ (.slice (some ⟨g, 0, none⟩) (T'.length + 1) c3)) B gL cL fb pb kR q0 h pv l (addF s' hd body) (.slice (some ⟨g, 0, none⟩) (T'.length + 1) c3) (T' ++ [(hd, v8, body)]) lv xs := by
  have hlow := L.low
  have ha : Far (fun _ => False) wr (w8.alloc (.cells #[.int .i64 hd, v8] 44)) := hf8.alloc _
  have hza := ha.size
  have hzr := L.far.size
  have hM5 := (L.rm.move ha).push (h := hd) (v := v8) (l := body) (hq8.go (alloc_far0 _ _) fun _ _ q => q.elim) hf ho
  have hO := L.ofBlk
  have hX5 := (L.box.far' ha id).far' hf fun e => hO.1 (.inl e)
  have hS : Far (fun i => i = fb) w5 (w5.setCell ⟨fb, 1, none⟩ (.slice (some ⟨g, 0, none⟩) (T'.length + 1) c3)) := (Far.refl _ w5).set _ _ fun _ => rfl
  have hgb : fb ≤ g ∨ qv.ownBlock = some g := hg.elim .inr fun e => .inl (by omega)
  refine ⟨hX5.set 1 _, (((L.prod.far' ha id).far' hf fun e => L.noPb (.inl e)).far' hS (by omega)), (((L.res.far' ha id).far' hf fun e => hO.2.1 (.inl e)).far' hS (by omega)), hM5.box hX5 (by decide) (by decide) (by decide) hlow.2.2.2.2.2.2 hS, ?_, ?_, fun k hk => ?_, ?_, hlow, fun k hk => ?_⟩
  · refine ((L.qb.go ha fun _ _ q => q.elim).go hf fun k _ e => ⟨((L.rm.move ha).row.lt k e).1, noSym_own (L.rm.move ha).row (by decide) e⟩).go hS fun k _ e => ?_
    subst e
    exact ⟨hlow.2.2.2.2.2.2, noSym_bk hX5 (by decide)⟩
  · exact ((L.far.trans (ha.mono (G := fun k => OF q0 gL k ∨ fb ≤ k) fun _ _ q => q.elim) fun _ _ q => q).trans (hf.mono (G := fun k => OF q0 gL k ∨ fb ≤ k) fun k _ e => L.own k e) fun _ _ q => q).trans (hS.mono (G := fun k => OF q0 gL k ∨ fb ≤ k) fun k _ e => .inr (by omega)) fun _ _ q => q
  · cases hk
    rcases hgb with e | e
    · exact .inr e
    · exact L.own _ e
  · refine row_far (row_far (row_far L.row ha fun _ _ q => q) hf fun k hk e => hO.2.2 k hk (.inl e)) hS fun k hk e => by have := (L.row.lt k hk).1; omega
  · cases hk
    rcases hg with e | e
    · exact L.ownp _ e
    · intro q
      have q : g = pb := q
      omega
theorem chain_step {xs : List Sy} {j : Nat} {xj : Sy} (s : Fs) (hd : Int) (hx : xs[j]? = some xj) (h2 : j + 2 < xs.length) : chainR (xs.drop j) s hd = chainR (xs.drop (j + 1)) { s with n := s.n + 1, ps := s.ps ++ [(hd, [xj, (false, (s.n : Int))])] } s.n := by
  obtain ⟨hj, e⟩ := List.getElem?_eq_some_iff.1 hx
  rw [List.drop_eq_getElem_cons hj, e, List.drop_eq_getElem_cons (show j + 1 < xs.length by omega), List.drop_eq_getElem_cons (show j + 1 + 1 < xs.length by omega)]
  rfl
/-- Behind the form's number counted up. -/
theorem LP.count {W wr : World} {B gL cL fb pb kR m : Nat} {q0 : Value} {h : Int} {pv : Value} {l : List Sy} {s' : Fs} {qv : Value} {T' : List Tr} {lv : Value} {xs : List Sy} (L : LP W wr B gL cL fb pb kR q0 h pv l s' qv T' lv xs) :
    LP W (wr.setCell ⟨fb, 0, none⟩ (.int .i64 (m : Int))) B gL cL fb pb kR q0 h pv l { s' with n := m } qv T' lv xs := by
  have hlow := L.low
  have hS : Far (fun i => i = fb) wr (wr.setCell ⟨fb, 0, none⟩ (.int .i64 (m : Int))) := (Far.refl _ wr).set _ _ fun _ => rfl
  have hM := L.rm.box L.box (by decide) (by decide) (by decide) hlow.2.2.2.2.2.2 hS
  exact ⟨L.box.set 0 _, L.prod.far' hS (by omega), L.res.far' hS (by omega), ⟨hM.row, hM.lab, hM.bod, hM.pl, hM.hi⟩, L.qb.go hS fun k _ e => by subst e; exact ⟨hlow.2.2.2.2.2.2, noSym_bk L.box (by decide)⟩, L.far.trans (hS.mono (G := fun k => OF q0 gL k ∨ fb ≤ k) fun k _ e => .inr (by omega)) fun _ _ q => q, L.own, row_far L.row hS fun k hk e => by have := (L.row.lt k hk).1; omega, hlow, L.ownp⟩
/-- The form stored whole, as the result. -/
theorem LP.shut {W wr : World} {B gL cL fb pb kR : Nat} {q0 : Value} {h : Int} {pv : Value} {l : List Sy} {s' : Fs} {qv : Value} {T' : List Tr} {lv : Value} {xs : List Sy} (L : LP W wr B gL cL fb pb kR q0 h pv l s' qv T' lv xs) :
    Bk ((((wr.setCell ⟨kR, 0, none⟩ (.int .i64 (s'.n : Int))).setCell ⟨kR, 1, none⟩ qv).setCell ⟨kR, 2, none⟩ (.slice (some ⟨gL, 0, none⟩) 16 cL)).setCell ⟨kR, 3, none⟩ (.int .i64 (eI s'.e))) kR 70 #[.int .i64 (s'.n : Int), qv, .slice (some ⟨gL, 0, none⟩) 16 cL, .int .i64 (eI s'.e)] ∧
    RM ((((wr.setCell ⟨kR, 0, none⟩ (.int .i64 (s'.n : Int))).setCell ⟨kR, 1, none⟩ qv).setCell ⟨kR, 2, none⟩ (.slice (some ⟨gL, 0, none⟩) 16 cL)).setCell ⟨kR, 3, none⟩ (.int .i64 (eI s'.e))) B gL cL qv T' s' ∧
    Far (fun k => OF q0 gL k ∨ fb ≤ k) W ((((wr.setCell ⟨kR, 0, none⟩ (.int .i64 (s'.n : Int))).setCell ⟨kR, 1, none⟩ qv).setCell ⟨kR, 2, none⟩ (.slice (some ⟨gL, 0, none⟩) 16 cL)).setCell ⟨kR, 3, none⟩ (.int .i64 (eI s'.e))) := by
  have hlow := L.low
  obtain ⟨hB6, hM6, hS6⟩ := form_shut (.int .i64 (s'.n : Int)) qv (.slice (some ⟨gL, 0, none⟩) 16 cL) (.int .i64 (eI s'.e)) L.res L.rm (by omega)
  exact ⟨hB6, hM6, L.far.trans (hS6.mono (G := fun k => OF q0 gL k ∨ fb ≤ k) fun k _ e => .inr (by omega)) fun _ _ q => q⟩
theorem LP.len {W wr : World} {B gL cL fb pb kR : Nat} {q0 : Value} {h : Int} {pv : Value} {l : List Sy} {s' : Fs} {q : Option Addr} {c : Nat} {T' : List Tr} {t : Tr} {lv : Value} {xs : List Sy} (L : LP W wr B gL cL fb pb kR q0 h pv l s' (.slice q (T'.length + 1) c) (T' ++ [t]) lv xs) :
    LP W wr B gL cL fb pb kR q0 h pv l s' (.slice q (T' ++ [t]).length c) (T' ++ [t]) lv xs := by
  rw [List.length_append, List.length_singleton]
  exact L
theorem nt_eq {l xs : List Sy} {s s1 : Fs} {j : Nat} {x : Sy} (h : labsF l s = (s1, xs)) (hx : xs[j]? = some x) : x = (false, x.2) := by
  have := labsF_nts l s x (by rw [h]; exact List.mem_of_getElem? hx)
  rw [← this]
/-- The round of the second loop, without the memory. -/
theorem round_math {l xs : List Sy} {s s0 s1 s2 : Fs} {h hd : Int} {n j : Nat} {xj : Sy} (hl : labsF l s = (s1, xs)) (hx : xs[j]? = some xj) (hlt : j + 2 < n) (hxn : xs.length = n) (hch : chainR (xs.drop j) s2 hd = chainR xs s1 h) (h1 : s2.n ≤ s0.n + n + j) (h2 : s2.ps.length ≤ s0.ps.length + n + j) :
    (j + 1) + 2 ≤ n ∧ s2.n + 1 ≤ s0.n + n + (j + 1) ∧ ({ (addF s2 hd [(false, xj.2), (false, (s2.n : Int))]) with n := s2.n + 1 } : Fs).ps.length ≤ s0.ps.length + n + (j + 1) ∧ chainR (xs.drop (j + 1)) { (addF s2 hd [(false, xj.2), (false, (s2.n : Int))]) with n := s2.n + 1 } (s2.n : Int) = chainR xs s1 h := by
  refine ⟨by omega, by omega, ?_, ?_⟩
  · show (s2.ps ++ [_]).length ≤ _
    rw [List.length_append, List.length_singleton]
    omega
  · rw [← hch, chain_step s2 hd hx (by omega), nt_eq hl hx]
    rfl
theorem chain_end {l xs : List Sy} {s s1 s2 : Fs} {h hd : Int} {n j : Nat} {xj xk : Sy} (hl : labsF l s = (s1, xs)) (hx : xs[j]? = some xj) (hk : xs[j + 1]? = some xk) (hjn : j + 2 = n) (hxn : xs.length = n) (hch : chainR (xs.drop j) s2 hd = chainR xs s1 h) :
    addF s2 hd [(false, xj.2), (false, xk.2)] = chainR xs s1 h := by
  obtain ⟨hj, e⟩ := List.getElem?_eq_some_iff.1 hx
  obtain ⟨hj2, e2⟩ := List.getElem?_eq_some_iff.1 hk
  rw [← hch, List.drop_eq_getElem_cons hj, e, List.drop_eq_getElem_cons hj2, e2, List.drop_eq_nil_of_le (by omega), nt_eq hl hx, nt_eq hl hk]
  rfl
end Go.Proofs.Ytjkfieilaahejaa
