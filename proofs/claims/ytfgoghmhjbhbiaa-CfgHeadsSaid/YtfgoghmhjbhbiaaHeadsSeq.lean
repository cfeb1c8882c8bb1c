/-
  What the sequence Heads hands out: each place, with a body of its own.
-/
import Derived.Test.YtfgoghmhjbhbiaaHeads12
namespace Go.Proofs.Ytfgoghmhjbhbiaa
open Go.RowKit Go.Shelf
set_option linter.unusedVariables false
set_option linter.unusedSimpArgs false
attribute [local go_sem] Oper.semAt_some
theorem far_grown {w w' : World} (h : Far (fun _ => False) w w') : w.grownBy w' none := ⟨h.os, h.tape, h.output, h.size, fun k hk _ => h.block k hk id⟩
theorem KeepK.far {K : Nat → Prop} {A B C : World} (h : KeepK K A B) (hK : ∀ k, K k → k < B.heap.size) (hf : Far (fun _ => False) B C) : KeepK K A C := fun k hk => (hf.block k (hK k hk) id).trans (h k hk)
theorem keepK_lt {K : Nat → Prop} {A B : World} (h : KeepK K A B) {k : Nat} (hk : K k) (hl : k < A.heap.size) : k < B.heap.size := by
  have := h k hk
  rw [Array.getElem?_eq_getElem hl] at this
  exact (Array.getElem?_eq_some_iff.1 this).1
/-- What is handed out, in the world in which it is. -/
def HOk (L : List (Int × List Sy)) (pre : List Tr) (x : Tr) (W : World) : Prop := (pre ++ [x]).map pl <+: L ∧ Body W x.2.1 x.2.2
theorem round_bool {e : Ending} {A B : Prop} (h : (e = .returned (.bool true) ∧ A) ∨ (e = .returned (.bool false) ∧ B)) : ∃ bv : Bool, e = .returned (.bool bv) ∧ ((bv = true ∧ A) ∨ (bv = false ∧ B)) :=
  h.elim (fun h => ⟨true, h.1, .inl ⟨rfl, h.2⟩⟩) (fun h => ⟨false, h.1, .inr ⟨rfl, h.2⟩⟩)
def hencs (x : Tr) : Array Value := #[.int .i64 x.1, x.2.1]
set_option maxRecDepth 100000 in
set_option maxHeartbeats 4000000 in
theorem heads_seq (n : Nat) (hn : 2 ≤ n) (B kL : Nat) (qv : Value) (U : List Tr) (w0 : World) (hL : Bk w0 kL 57 #[qv]) (hU : OwnH w0 B qv U) (hs : U.length * 32 ≤ 140737488351232) (hs2 : ∀ t ∈ U, t.2.2.length * 16 ≤ 140737488351232) :
    SeqOk n Try.prog 34 #[.pointer (some ⟨kL, 0, none⟩)] hencs (HOk (U.map pl)) (KeepK fun k => k < w0.heap.size ∧ (k = kL ∨ B ≤ k)) (fun xs => xs.map pl = U.map pl) (fun pre => pre.map pl <+: U.map pl) w0 := fun l J Jx W hW hJ hY h0 => by
  obtain ⟨K, hKd⟩ : ∃ K : Nat → Prop, K = fun k => k < w0.heap.size ∧ (k = kL ∨ B ≤ k) := ⟨_, rfl⟩
  rw [← hKd] at hY
  have hK1 : ∀ k, K k → k < w0.heap.size := fun k hk => by rw [hKd] at hk; exact hk.1
  have hK2 : ∀ i, B ≤ i → i < w0.heap.size → K i := fun i h1 h2 => by rw [hKd]; exact ⟨h2, .inr h1⟩
  have k0 : KeepK K w0 W := fun k hk => hW.block k (hK1 k hk)
  have hKW : ∀ k, K k → k < W.heap.size := fun k hk => Nat.lt_of_lt_of_le (hK1 k hk) hW.size
  have d : Bk W kL 57 #[qv] := hL.below hW hL.lt
  obtain ⟨ao, ac, rfl⟩ := Src.form (Src.own hU.1)
  have dc : W.cell? ⟨kL, 0, none⟩ = some (.slice ao U.length ac) := d.cell 0
  have HP := Lib.hid (fun wr (k : KeepK K W wr) => (hU.keep (keepK_t k0 k) hK2).prods)
  have HY := Lib.hid hY
  have HJ := Lib.hid hJ
  have HK := Lib.hid hKW
  have HS := Lib.hid hs2
  have hUl : U.length ≤ 4398046510976 := by omega
  clear hY hL hU hJ hW k0 d hs hs2 hKd hK1 hK2 hKW
  refine callsIn_of_wp Try.func34 rfl trivial ?_ rfl
  simp only [Try.ntmps34, List.size_toArray, List.length_cons, List.length_nil, Nat.reduceAdd, Nat.reduceSub, Array.replicate_succ, Array.replicate_zero, List.push_toArray, List.append_toArray, List.nil_append, List.cons_append]
  have hn1 : 1 ≤ n := by omega
  gi_wp2
  gi_loopw [7] (fun iv wr => ∃ (i : Nat) (pre : List Tr), iv = .int .i64 i ∧ i ≤ U.length ∧ pre.map pl = (U.map pl).take i ∧ J pre wr ∧ KeepK K W wr) (fun iv _ => U.length - (intOf iv).toNat)
  case atStart => exact ⟨0, [], rfl, Nat.zero_le _, rfl, h0, fun _ _ => rfl⟩
  case round =>
    clear h0 dc
    obtain ⟨i, pre, rfl, hi, hpre, hJi, hk⟩ := hrel
    by_cases hlt : i < U.length
    · have e1 : decide ((i : Int) < (U.length : Int)) = true := by rw [decide_eq_true_eq]; omega
      have hii : (i : Int) < (U.length : Int) := by omega
      obtain ⟨t, ht⟩ : ∃ t, U[i]? = some t := ⟨U[i], List.getElem?_eq_getElem hlt⟩
      obtain ⟨b, off, c, he, hbl, c0, c1, hbd⟩ := (HP.out wr hk).prod ht
      simp only [Value.slice.injEq] at he
      obtain ⟨rfl, _, rfl⟩ := he
      have hl16 := HS.out t (List.mem_of_getElem? ht)
      have htk : (U.map pl).take (i + 1) = (U.map pl).take i ++ [pl t] := by
        have hl : i < (U.map pl).length := by simpa using hlt
        rw [List.take_succ_eq_append_getElem hl]
        congr 2
        rw [List.getElem_map, (List.getElem?_eq_some_iff.1 ht).2]
      obtain ⟨p0, tv, l'⟩ := t
      simp only [] at c0 c1 hbd hl16
      obtain ⟨bo, bc, rfl⟩ := Src.form hbd
      obtain ⟨ax, hax⟩ : ∃ ax, ax = wr.heap.size := ⟨_, rfl⟩
      obtain ⟨wa, hwa⟩ : ∃ wa, wa = wr.alloc (.cells #[.int .i64 p0, .slice bo l'.length bc] 59) := ⟨_, rfl⟩
      have hfa : Far (fun _ => False) wr wa := hwa ▸ (Far.refl _ wr).alloc _
      have hX : Bk wa ax 59 #[.int .i64 p0, .slice bo l'.length bc] := hwa ▸ Bk.new hax
      have CL : CallsIn Fence.wide (n - 1) Try.prog 25 #[.slice bo l'.length bc] wa.drew _ := callsIn_wide.2 (clone_any (.slice bo l'.length bc) l' wa.drew ((hbd.move hfa).move (drew_far _)) hl16)
      have HX := Lib.hid (fun w8 (hf8 : Far (fun _ => False) wa.drew w8) => (hX.far' ((drew_far wa).then hf8) id))
      have HF := Lib.hid (fun w8 (hf8 : Far (fun _ => False) wa.drew w8) => hfa.then ((drew_far wa).then hf8))
      have hpk : pre.map pl ++ [(p0, l')] <+: U.map pl := by rw [hpre]; exact htk ▸ List.take_prefix _ _
      have HG := Lib.hid (fun v8 w8 (hb8 : Body w8 v8 l') (hf8 : Far (fun _ => False) wa.drew w8) =>
        HY.out pre (p0, v8, l') w8 (HJ.out _ _ _ none hJi (far_grown (hfa.then ((drew_far wa).then hf8))) (fun r e => by cases e)) ⟨by rw [List.map_append]; exact hpk, hb8⟩)
      have htk' := Lib.hid (show pre.map pl ++ [(p0, l')] = (U.map pl).take (i + 1) by rw [hpre, htk]; rfl)
      have hk' := Lib.hid hk
      have hpk' := Lib.hid hpk
      have hKr := Lib.hid (show ∀ k, K k → k < wr.heap.size from fun k h => keepK_lt hk h (HK.out k h))
      subst hwa
      subst hax
      clear hX hfa hbd ht htk hpre hk hJi hpk hbl
      gi_wp2
      gi_region_with (first
        | (refine ⟨trivial, ?_⟩; refine CL.mono ?_; rintro e w8 ⟨v8, rfl, ho8, hf8⟩; have hb8 := Src.own ho8; obtain ⟨vo, vc, rfl⟩ := Src.form hb8; have HX8 := HX.out w8 hf8; have r0 := HX8.cell 0; have r1 := HX8.cell 1; have hf8' := Lib.hid (HF.out w8 hf8); obtain ⟨fn, tmps, assign, body, hy, hR⟩ := HG.out _ w8 hb8 hf8; simp only [hencs] at hy; clear ho8 hb8 HX8 hf8)
        | (refine hR.mono ?_; rintro e W3 hc3; obtain ⟨bv, rfl, hc4⟩ := round_bool hc3; have hc5 := Lib.hid hc4; clear hc3 hc4))
      all_goals
        clear c0 c1 r0 r1 hy hR CL
        rcases hc5.out with ⟨rfl, hJ3, hk3⟩ | ⟨rfl, hJx3⟩
        · have hk4 := Lib.hid (keepK_t (KeepK.far hk'.out hKr.out hf8'.out) hk3)
          clear hk3
          gi_wp2
          go_roundw
          case rel => exact ⟨i + 1, pre ++ [(p0, .slice vo l'.length vc, l')], by go_num, by omega, by rw [List.map_append]; exact htk'.out, hJ3, hk4.out⟩
          case measure => simp [intOf]; omega
        · gi_wp2
          refine bodyPost_ret (results_none rfl _ _ _) rfl ?_
          exact ⟨⟨_, rfl⟩, .inr ⟨_, by rw [List.map_append]; exact hpk'.out, hJx3⟩⟩
    · have e1 : decide ((i : Int) < (U.length : Int)) = false := by rw [decide_eq_false_iff_not]; omega
      have hin : i = U.length := by omega
      have hpre2 := Lib.hid (show pre.map pl = U.map pl by rw [hpre, hin]; exact List.take_of_length_le (by simp))
      clear hpre
      gi_wp2
      go_end0
      exact ⟨⟨_, rfl⟩, .inl ⟨_, hpre2.out, hJi⟩⟩
end Go.Proofs.Ytfgoghmhjbhbiaa
