/-
  Cells of a matrix: the sequence.
-/
import Derived.Test.YtoaeeojnelmlnaaDoorQStrip
namespace Go.Proofs.YtoaeeojnelmlnaaDoor
open Go.RowKit Go.Shelf
set_option linter.unusedVariables false
set_option linter.unusedSimpArgs false
/-- The cells of all strips. -/
def cellsF (M : Nat → Nat → Bool) : Nat → List (Nat × Nat) → List (Nat × Nat)
  | 0, _ => []
  | n + 1, S => if S = [] then [] else cellsS M (S.take (stripN S)) ++ cellsF M n (S.drop (stripN S))
theorem cellsF_nil (M : Nat → Nat → Bool) (n : Nat) : cellsF M n [] = [] := by cases n <;> simp [cellsF]
theorem cellsF_step (M : Nat → Nat → Bool) {n : Nat} {S : List (Nat × Nat)} (h : S ≠ []) (hn : S.length ≤ n) : ∃ m, n = m + 1 ∧ cellsF M n S = cellsS M (S.take (stripN S)) ++ cellsF M m (S.drop (stripN S)) := by
  cases n with
  | zero => exact absurd (List.length_eq_zero_iff.1 (Nat.le_zero.1 hn)) h
  | succ m => exact ⟨m, rfl, by simp [cellsF, h]⟩
/-- What a walk over the cells must leave as it is: the table, and every row of cells and of leaves. -/
def KT (A B : World) : Prop := A.heap.size ≤ B.heap.size ∧ ∀ k, (k = 0 ∨ ∃ cs t, Bk A k t cs ∧ (t = 58 ∨ t = 99 ∨ t = 112)) → B.heap[k]? = A.heap[k]?
theorem KT.refl (A : World) : KT A A := ⟨Nat.le_refl _, fun _ _ => rfl⟩
theorem KT.trans {A B C : World} (h : KT A B) (k : KT B C) : KT A C := ⟨Nat.le_trans h.1 k.1, fun i hi => (k.2 i (hi.elim .inl fun ⟨cs, t, hb, ht⟩ => .inr ⟨cs, t, (h.2 i hi).trans hb, ht⟩)).trans (h.2 i hi)⟩
theorem KT.put {B : Nat} (W : World) (l : Nat) (o o' : Obj) (hT : 0 < B) (hl : B ≤ l) (h : W.heap[l]? = some o) (ho : o.isCells = false) : KT W (W.putObj l o') :=
  ⟨putObj_size W l o', fun k hk => World.putObj_heap_other fun e => by
    rcases hk with rfl | ⟨cs, t, hb, _⟩
    · omega
    · rw [e] at hb
      rw [show W.heap[l]? = _ from hb] at h
      cases h
      cases ho⟩
theorem KT.far {A B : World} (hf : Far (fun _ => False) A B) (hT : 0 < A.heap.size) : KT A B := ⟨hf.size, fun k hk => hf.block k (hk.elim (fun e => by rw [e]; exact hT) fun ⟨_, _, hb, _⟩ => hb.lt) id⟩
theorem Tab.kt {A B : World} (h : Tab A) (k : KT A B) : Tab B := fun j hj => (cell_eq (p := ⟨0, j, none⟩) (k.2 _ (.inl rfl))).trans (h j hj)
theorem KT.row {A B : World} {base e size n : Nat} {v : Value} {xs : List Value} (h : A.ownsRow base e size v n xs) (k : KT A B) (he : e = 58 ∨ e = 99) : B.ownsRow base e size v n xs := row_same h fun q hq _ => by
  rcases h.2 with ⟨rfl, _⟩ | ⟨g', cap, cur, rfl, _, hg, _⟩
  · cases hq
  · have : g' = q := Option.some.inj hq
    subst this
    exact k.2 _ (.inr ⟨cur, e, hg, he.elim .inl fun h => .inr (.inl h)⟩)
def lenV : Value → Nat
  | .slice _ n _ => n
  | _ => 0
/-- The two numbers that the loop's variables get. -/
def encP (x : Nat × Nat) : Array Value := #[.int .i64 (x.1 : Nat), .int .i64 (x.2 : Nat)]
set_option maxRecDepth 100000 in
set_option maxHeartbeats 8000000 in
theorem qcells_seq (n : Nat) (hn : 2 ≤ n) (h b : Nat) (v : Value) (M : Nat → Nat → Bool) (L : List (Nat × Nat)) (hL : L.length ≤ 256) (hp : ∀ p ∈ L, p.1 < 16 ∧ p.2 < 16) (w0 : World) (hX : Bk w0 h 112 #[v]) (hO : w0.ownsRow b 99 66 v L.length (srows M L).flatten) (hT : Tab w0) :
    SeqOk n Tryd.prog 90 #[.pointer (some ⟨h, 0, none⟩)] encP (fun pre x _ => (pre ++ [x]) <+: cellsF M L.length L) KT (fun xs => xs = cellsF M L.length L) (fun _ => True) w0 := fun l J Jx W hW hJ hY h0 => by
  have hXW : Bk W h 112 #[v] := hX.below hW hX.lt
  have hOW : W.ownsRow b 99 66 v L.length (srows M L).flatten := row_same hO fun k hk hlt => hW.block k hlt
  have hTW : Tab W := hT.stays hW
  have HY := Lib.hid hY
  have HJ := Lib.hid hJ
  obtain ⟨T, hTT⟩ : ∃ T, T = cellsF M L.length L := ⟨_, rfl⟩
  have hTT' := Lib.hid hTT
  rw [← hTT] at HY
  obtain ⟨ao, cap, rfl⟩ := q_form hO
  have p0 : W.cell? ⟨h, 0, none⟩ = some (.slice ao L.length cap) := hXW.cell 0
  have hOW' := Lib.hid hOW
  have hTW' := Lib.hid hTW
  clear hY hJ hX hO hXW hOW hTT hT hTW
  refine callsIn_of_wp Tryd.func90 rfl trivial (wpIn_wide.2 ?_) rfl
  simp only [Tryd.ntmps90, List.size_toArray, List.length_cons, List.length_nil, Nat.reduceAdd, Nat.reduceSub, Array.replicate_succ, Array.replicate_zero, List.push_toArray, List.append_toArray, List.nil_append, List.cons_append]
  have hn1 : 1 ≤ n := by omega
  go_wp2_with fail
  clear p0
  go_loopw [3] (fun rv wr => ∃ (k m : Nat) (ro : Option Addr) (rc : Nat) (pre : List (Nat × Nat)) (f : Nat), m + k = L.length ∧ rv = .slice ro m rc ∧ (0 < m → ∃ g, ao = some ⟨g, 0, none⟩ ∧ ro = some ⟨g, k * 66, none⟩) ∧ m ≤ rc ∧ m ≤ f ∧ pre ++ cellsF M f (L.drop k) = T ∧ J pre wr ∧ KT W wr) (fun rv _ => lenV rv)
  case atStart =>
    refine ⟨0, L.length, ao, cap, [], L.length, rfl, rfl, fun h9 => ?_, ?_, Nat.le_refl _, hTT'.out.symm, h0, KT.refl _⟩
    · obtain ⟨g, c2, hsv, _⟩ := hOW'.out.form h9
      cases hsv
      exact ⟨g, rfl, by rw [Nat.zero_mul]⟩
    · rcases hOW'.out.2 with ⟨e, e2⟩ | ⟨g, cap', cur, e, _, _, hle, _⟩
      · rw [e2]; exact Nat.zero_le _
      · cases e; exact hle
  case round =>
    clear h0
    obtain ⟨k, m, ro, rc, pre, f, hk, rfl, hro, hrc, hf, hpre, hJk, hKp⟩ := hrel
    by_cases hlt : 0 < m
    · obtain ⟨g, rfl, rfl⟩ := hro hlt
      have hmi : (0 : Int) < (m : Int) := by omega
      obtain ⟨S, hS⟩ : ∃ S, S = L.drop k := ⟨_, rfl⟩
      have hSl : S.length = m := by rw [hS, List.length_drop]; omega
      have hSne : S ≠ [] := List.length_pos_iff.1 (by omega)
      obtain ⟨s, hs⟩ : ∃ s, s = stripN S := ⟨_, rfl⟩
      have hs1 : 1 ≤ s := hs ▸ stripN_pos hSne
      have hs2 : s ≤ m := by rw [hs, ← hSl]; exact stripN_le S
      have hOr : wr.ownsRow b 99 66 (.slice (some ⟨g, 0, none⟩) L.length cap) L.length (srows M L).flatten := KT.row hOW'.out hKp (.inr rfl)
      have hTr : Tab wr := hTW'.out.kt hKp
      have hrow : ∀ i p, S[i]? = some p → wr.rangeAt g (k * 66 + i * 66) (srow M p) := fun i p hi => by
        rw [hS, List.getElem?_drop] at hi
        have := own_range hOr (srows_even M _) (srows_get hi)
        rw [Nat.add_mul] at this
        exact this
      have SN := qstrip_any M g (k * 66) rc S (by omega) hSne wr hrow
      rw [hSl, ← hs] at SN
      have hglt := (hOr.lt g rfl).2
      obtain ⟨f', hf', hstep⟩ := cellsF_step M hSne (show S.length ≤ f by omega)
      rw [← hs] at hstep
      have hsi : (s : Int) ≤ (m : Int) := by omega
      have hsr : s ≤ rc := by omega
      have hsri : (s : Int) ≤ (rc : Int) := by omega
      have hs1' : (0 : Int) ≤ (s : Int) := by omega
      have hCE : ∀ w1, Far (fun _ => False) wr w1 → Calls Tryd.prog 92 #[.slice (some ⟨g, k * 66, none⟩) s rc] w1 _ := fun w1 hf1 => by
        have := qcells_any M g (k * 66) rc (S.take s) (by rw [List.length_take]; omega) w1 (fun i p hi => range_far (hrow i p (by rw [List.getElem?_take] at hi; split at hi; exact hi; cases hi)) hf1) (Nat.lt_of_lt_of_le hglt hf1.size) (fun p hp' => hp p (List.mem_of_mem_drop (hS ▸ List.mem_of_mem_take hp'))) (hTr.still hf1)
        rw [show (S.take s).length = s by rw [List.length_take]; omega] at this
        exact this
      obtain ⟨X, hX⟩ : ∃ X, X = cellsS M (S.take s) := ⟨_, rfl⟩
      rw [← hX] at hCE hstep
      have hJk' := Lib.hid hJk
      have hKp' := Lib.hid hKp
      have hpre' := Lib.hid (show pre ++ (X ++ cellsF M f' (S.drop s)) = T by rw [← hstep, hS]; exact hpre)
      have hS' := Lib.hid hS
      have hf'' := Lib.hid hf'
      have hTlt := Lib.hid hTr.lt
      clear hJk hKp hpre hS hf' hrow hOr hTr hSne hs hstep hX hro
      go_wp2_with fail
      refine SN.mono ?_
      rintro e w1 ⟨rfl, hf1⟩
      have CE := hCE w1 hf1
      have hf1' := Lib.hid hf1
      clear SN hCE hf1
      go_wp2_with fail
      refine CE.mono ?_
      rintro e w2 ⟨v, rfl, hown, hf2, hXl⟩
      have hf12 := Lib.hid (hf1'.out.then hf2)
      obtain ⟨xo, xc, rfl⟩ := q_form hown
      obtain ⟨nX, hnX⟩ : ∃ n, n = X.length := ⟨_, rfl⟩
      rw [← hnX] at hown hXl ⊢
      have hown' := Lib.hid hown
      have hnX' := Lib.hid hnX
      have hJ2 := Lib.hid (HJ.out _ _ _ none hJk'.out (far_grown hf12.out) (fun r e => by cases e))
      have hK2 := Lib.hid (hKp'.out.trans (KT.far hf12.out hTlt.out))
      clear CE hown hf2 hnX hJk' hKp'
      go_wp2_with fail
      have hmk := Lib.hid (show m + k = L.length from hk)
      clear hf1' hf12
      go_loopw [18] (fun iv wr => ∃ i : Nat, i ≤ nX ∧ iv = .int .i64 (i : Nat) ∧ J (pre ++ X.take i) wr ∧ KT w2 wr) (fun iv _ => nX - (intOf iv).toNat)
      case atStart => exact ⟨0, Nat.zero_le _, rfl, by rw [List.take_zero, List.append_nil]; exact hJ2.out, KT.refl _⟩
      case round =>
        clear hJ2
        obtain ⟨i, hi, rfl, hJi, hKi⟩ := hrel
        by_cases hin : i < nX
        · have hii : (i : Int) < (nX : Int) := by omega
          obtain ⟨x, hx⟩ : ∃ x, X[i]? = some x := ⟨X[i]'(by rw [← hnX'.out]; exact hin), List.getElem?_eq_getElem _⟩
          have hrowX := KT.row hown'.out hKi (.inl rfl)
          obtain ⟨gx, c2, hsv, _⟩ := hrowX.form (by omega)
          cases hsv
          have e0 : wr.cell? ⟨gx, i * 2, none⟩ = some (.int .i64 (x.1 : Nat)) := by rw [hrowX.cellAt (i * 2) (by omega)]; exact (ccells_at hx).1
          have e1 : wr.cell? ⟨gx, i * 2 + 1, none⟩ = some (.int .i64 (x.2 : Nat)) := by rw [hrowX.cellAt (i * 2 + 1) (by omega)]; exact (ccells_at hx).2
          have hnext : (pre ++ X.take i) ++ [x] = pre ++ X.take (i + 1) := by rw [List.take_add_one, hx, List.append_assoc]; rfl
          have hok : ((pre ++ X.take i) ++ [x]) <+: T := by
            rw [hnext, ← hpre'.out, List.prefix_append_right_inj]
            exact (List.take_prefix _ _).trans (List.prefix_append _ _)
          have hJi' := Lib.hid hJi
          have hKi' := Lib.hid hKi
          have hnext' := Lib.hid hnext
          have hok' := Lib.hid hok
          clear hJi hKi hrowX hx hnext hok
          go_upto_region 6 with fail
          obtain ⟨k6, hk6⟩ : ∃ b, b = wr.heap.size := ⟨_, rfl⟩
          obtain ⟨wa, hwa⟩ : ∃ V, V = wr.alloc (.cells #[.int .i64 (x.1 : Nat), .int .i64 (x.2 : Nat)] 58) := ⟨_, rfl⟩
          rw [← hk6, ← hwa]
          have hfa : Far (fun _ => False) wr wa := hwa ▸ (Far.refl _ wr).alloc _
          have hb6 : Bk wa k6 58 #[.int .i64 (x.1 : Nat), .int .i64 (x.2 : Nat)] := hwa ▸ Bk.new hk6
          have x0 : wa.cell? ⟨k6, 0, none⟩ = some (.int .i64 (x.1 : Nat)) := hb6.cell 0
          have x1 : wa.cell? ⟨k6, 1, none⟩ = some (.int .i64 (x.2 : Nat)) := hb6.cell 1
          obtain ⟨fn, tmps, assign, body, hy, hR⟩ := HY.out (pre ++ X.take i) x wa (HJ.out _ _ _ none hJi'.out (far_grown hfa) (fun r e => by cases e)) hok'.out
          rw [hnext'.out] at hR
          simp only [encP] at hy
          have hKa := Lib.hid (hKi'.out.trans (KT.far hfa (Nat.lt_of_lt_of_le hTW'.out.lt (Nat.le_trans hK2.out.1 hKi'.out.1))))
          clear hwa hk6 hfa hb6 e0 e1
          refine (wpIn_wide (n := n)).1 ?_
          gi_wp2_with (refine hR.mono ?_; rintro e W3 hc3; obtain ⟨bv, rfl, hc4⟩ := round_bool hc3; have hc5 := Lib.hid hc4; clear hc3 hc4)
          clear hy hR x0 x1
          rcases hc5.out with ⟨rfl, hJ3, hk3⟩ | ⟨rfl, hJx3⟩
          · have hJ4 := Lib.hid hJ3
            have hK4 := Lib.hid (hKa.out.trans hk3)
            clear hJ3 hk3
            go_wp2_with fail
            go_roundw
            case rel => exact ⟨i + 1, by omega, by simp, hJ4.out, hK4.out⟩
            case measure => simp only [intOf]; omega
          · have hJ4 := Lib.hid hJx3
            clear hJx3
            go_wp2_with fail
            refine bodyPost_ret (results_none rfl _ _ _) rfl ?_
            exact ⟨⟨_, rfl⟩, .inr ⟨_, hJ4.out⟩⟩
        · have hie : i = nX := by omega
          subst hie
          have hJ5 := Lib.hid (show J (pre ++ X) wr by
            have := hJi
            rw [List.take_of_length_le (by rw [← hnX'.out]; exact Nat.le_refl _)] at this
            exact this)
          have hK5 := Lib.hid (hK2.out.trans hKi)
          clear hJi hKi
          go_wp2_with fail
          refine ⟨⟨k + s, m - s, _, rc - s, pre ++ X, f', by have := hmk.out; omega, rfl, fun h9 => ⟨g, rfl, ?_⟩, by omega, by have := hf''.out; omega, ?_, hJ5.out, hK5.out⟩, ?_⟩
          · rw [if_neg (by omega), Nat.add_mul]
          · rw [List.append_assoc, ← List.drop_drop, ← hS'.out]
            exact hpre'.out
          · simp only [lenV]; omega
    · have hm0 : m = 0 := by omega
      subst hm0
      have hJ2 := Lib.hid hJk
      have hT2 := Lib.hid (show pre = T by
        rw [← hpre, show L.drop k = [] from List.drop_eq_nil_of_le (by omega), cellsF_nil, List.append_nil])
      clear hJk hpre
      go_wp2_with fail
      go_end0
      exact ⟨⟨_, rfl⟩, .inl ⟨_, hT2.out.trans hTT'.out, hJ2.out⟩⟩
section
variable {w w' : World} {B side : Nat} {F : Nat → Prop} {M : Nat → Nat → Bool}
set_option maxRecDepth 100000 in
set_option maxHeartbeats 4000000 in
/-- Cells: the sequence, made. -/
theorem qCells_any (h : Mx w B F side M) :
    Calls Tryd.prog 35 #[.pointer (some ⟨B, 0, none⟩)] w fun e w' => ∃ hb v, e = .returned (.func (.func 90) #[] #[.pointer (some ⟨hb, 0, none⟩)]) ∧ Bk w' hb 112 #[v] ∧
      w'.ownsRow w.heap.size 99 66 v (placesL M side).length (srows M (placesL M side)).flatten ∧ w.heap.size ≤ hb ∧ Far (fun _ => False) w w' := by
  have SP := qspots_any h
  clear h
  go_enter Tryd.func35, Tryd.ntmps35
  go_wp2_with fail
  refine SP.mono ?_
  rintro e w1 ⟨v, rfl, hO, hf⟩
  have hO' := Lib.hid hO
  have hf' := Lib.hid hf
  clear SP hO hf
  obtain ⟨ao, cap, rfl⟩ := q_form hO'.out
  go_wp2_with fail
  go_ret
  have hz := hf'.out.size
  exact ⟨_, _, rfl, Bk.new rfl, row_same hO'.out fun k _ hl => heap_alloc_old _ _ hl, hz, hf'.out.alloc _⟩
end
end Go.Proofs.YtoaeeojnelmlnaaDoor
