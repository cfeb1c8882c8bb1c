/-
  A keeper's Add: the cells that are new, rising.
-/
import Derived.Test.YtjolkhiggcmoiaaDoorQRAdd
import Derived.Test.YtjolkhiggcmoiaaDoorQRSort
namespace Go.Proofs.YtjolkhiggcmoiaaDoor
open Go.RowKit Go.Shelf
set_option linter.unusedVariables false
set_option linter.unusedSimpArgs false
/-- A list of cells of the call's own in a variable. -/
def FT (hf b0 : Nat) (t : List (Nat × Nat)) (F : Nat → Prop) (V : World) : Prop := ∃ v, Bk V hf 26 #[v] ∧ V.ownsRow b0 61 2 v t.length (ccells t) ∧ F = fun k => k = hf ∨ v.ownBlock = some k
theorem cell_infoC : (Tryd.prog.info? 61).map (fun i => (i.zero, i.size, i.bytes)) = some (some (.agg #[.int .i64 0, .int .i64 0]), 2, 16) := by kernel_rfl
section
set_option maxHeartbeats 4000000
set_option maxRecDepth 100000
theorem fresh_any {s hf b0 : Nat} (hs : s ≤ 1024) (hb0 : b0 ≤ hf) : Tel s 73 #[.pointer (some ⟨hf, 0, none⟩)] (FT hf b0) where
  enter := enters_of Tryd.func73 (by kernel_rfl) rfl
  lt := by
    rintro t F V ⟨v, hb, ho, rfl⟩ k (rfl | hk)
    · exact hb.lt
    · exact (ho.lt k hk).2
  still := by
    rintro t F V V' H ⟨v, hb, ho, rfl⟩ hfar hn
    exact ⟨v, hb.far' hfar (hn _ (.inl rfl)), row_same ho fun k hk hl => hfar.block k hl (hn k (.inr hk)), rfl⟩
  tell := by
    rintro t F V ⟨v, hb, ho, rfl⟩ r c hr hc ht
    obtain ⟨ao, cap, rfl⟩ := q_form ho
    obtain ⟨n, hn⟩ : ∃ n, t.length = n := ⟨_, rfl⟩
    rw [hn] at hb ho ht ⊢
    obtain ⟨i0, hi0, hz0, hz1, hz2⟩ := info_parts cell_infoC
    have c0 : V.cell? ⟨hf, 0, none⟩ = some (.slice ao n cap) := hb.cell 0
    have A1 := Lib.hid (ho.alloc (.cells #[.int .i64 (r : Nat), .int .i64 (c : Nat)] 61))
    have A2 := Lib.hid (World.news_of_block (w := V.alloc (.cells #[.int .i64 (r : Nat), .int .i64 (c : Nat)] 61)) (cs := #[.int .i64 (r : Nat), .int .i64 (c : Nat)]) (t := 61) (fr := (0, 0)) (heap_alloc_new V _))
    have A3 : ∀ u ∈ (#[.int .i64 (r : Nat), .int .i64 (c : Nat)] : Array Value).toList, u.oneCell' = true := fun u hu => by simp at hu; rcases hu with rfl | rfl <;> rfl
    have A4 : n + 1 ≤ maxLen := by unfold maxLen; omega
    have A5 : (n + 1) * 16 ≤ 140737488355328 := by omega
    have A7 : b0 ≤ (V.alloc (.cells #[.int .i64 (r : Nat), .int .i64 (c : Nat)] 61)).heap.size := by have := hb.lt; simp; omega
    have hn8 : (Value.slice ao n cap).ownBlock ≠ some hf := fun e => by
      obtain ⟨_, _, cs, hb2⟩ := own_type ho e
      have := bk_type hb2 hb
      revert this
      decide
    have hb' := Lib.hid hb
    have ho' := Lib.hid ho
    have hn' := Lib.hid hn
    clear hb ho hn
    go_enter Tryd.func73, Tryd.ntmps73
    go_wp2_with (at_builtin; refine wpList_append_lies _ rfl _ _ 26 rfl b0 61 i0 _ 2 16 Tryd.underlying26 hi0 hz0 hz1 hz2 rfl (by decide) (.slice ao n cap) n _ rfl A1.out ⟨V.heap.size, 0, none⟩ 1 1 (#[.int .i64 (r : Nat), .int .i64 (c : Nat)] : Array Value).toList rfl rfl A2.out A3 (by decide) A4 A5 A7 _ rfl ?_; intro fg fc w4 ho4 hg4 hat4 hl4; have b84 : Bk w4 hf 26 #[.slice ao n cap] := (hb'.out.alloc _).grownR hg4 (fun e => hn8 e.symm); have f84 := b84.free 0; have c84 : w4.cell? ⟨hf, 0, none⟩ = some (.slice ao n cap) := b84.cell 0; have b84' := Lib.hid b84; have ho4' := Lib.hid ho4; have hg4' := Lib.hid hg4; have hat4' := Lib.hid hat4; clear ho4 hg4 hat4 b84)
    go_end0
    have hne : fg ≠ hf := fun e => by
      subst e
      obtain ⟨_, _, cs, hb2⟩ := own_type ho4'.out rfl
      have := bk_type hb2 b84'.out
      revert this
      decide
    refine ⟨rfl, _, ⟨_, b84'.out.set 0 _, ?_, rfl⟩, ⟨?_, ?_⟩⟩
    · rw [List.length_append, List.length_singleton, hn'.out, ccells_app]
      exact row_same ho4'.out fun k hk hl => heap_setCell_other _ _ _ _ fun e => by
        cases hk
        exact hne e
    · exact (((Far.refl (fun k => k = hf ∨ (Value.slice ao n cap).ownBlock = some k) V).alloc _).grown hg4'.out fun k hk e => .inr e).set _ _ fun _ => .inl rfl
    · rintro k (rfl | hk)
      · exact .inl (.inl rfl)
      · cases hk
        rcases hat4'.out with e | e
        · exact .inl (.inr e)
        · exact .inr (by rw [e]; simp)
end
section
variable {w w' : World} {B ps pb pc s : Nat} {Fs Fb Fc : Nat → Prop} {M C : Nat → Nat → Bool}
set_option maxHeartbeats 8000000
set_option maxRecDepth 100000
theorem kAdd_no (h : Kp w B ps pb pc Fs Fb Fc s M C) (i j : Int) (hE : wrE s i j = 2) : Calls Tryd.prog 28 #[.pointer (some ⟨B, 0, none⟩), .int .i64 i, .int .i64 j] w fun e w' => e = .returned (.tuple #[.slice none 0 0, .int .i64 2]) ∧ Far (fun _ => False) w w' := by
  have HS := khas_any h i j
  rw [hE, if_neg (by decide)] at HS
  clear h hE
  go_enter Tryd.func28, Tryd.ntmps28
  go_wp2_with fail
  refine HS.mono ?_
  rintro e w1 ⟨rfl, hf1⟩
  have hf1' := Lib.hid hf1
  clear HS hf1
  go_wp2_with fail
  go_ret2
  exact ⟨rfl, hf1'.out⟩
theorem kAdd_yes (h : Kp w B ps pb pc Fs Fb Fc s M C) (hT : Tab w) (htab : ∀ k, KF B Fs Fb Fc k → k ≠ 0) (i j : Nat) (hi : i < s) (hj : j < s) : Calls Tryd.prog 28 #[.pointer (some ⟨B, 0, none⟩), .int .i64 (i : Nat), .int .i64 (j : Nat)] w fun e w' => ∃ v Fs' Fb' Fc' C', e = .returned (.tuple #[v, .int .i64 0]) ∧ Kp w' B ps pb pc Fs' Fb' Fc' s (putM M i j) C' ∧ (∀ r c, C r c = true → C' r c = true) ∧ w'.ownsRow w.heap.size 61 2 v (cellsL (lsM C' C) s).length (ccells (cellsL (lsM C' C) s)) ∧ (∀ k, v.ownBlock = some k → ¬ KF B Fs' Fb' Fc' k) ∧ Mv w w' (KF B Fs Fb Fc) (KF B Fs' Fb' Fc') := by
  have HS := khas_any h (i : Int) (j : Int)
  obtain ⟨hs1, hs2⟩ := h.st.sides
  rw [wrE_in (by omega) ⟨⟨by omega, by omega⟩, by omega, by omega⟩, if_pos rfl, Int.toNat_natCast, Int.toNat_natCast] at HS
  have h' := Lib.hid h
  have hT' := Lib.hid hT
  have htab' := Lib.hid htab
  clear h hT htab
  go_enter Tryd.func28, Tryd.ntmps28
  go_wp2_with fail
  refine HS.mono ?_
  rintro e w1 ⟨rfl, hf1⟩
  have hf1' := Lib.hid hf1
  clear HS hf1
  obtain ⟨hb, hhb⟩ : ∃ h, h = w1.heap.size := ⟨_, rfl⟩
  obtain ⟨W2, hW2⟩ : ∃ V, V = w1.alloc (.cells #[.slice none 0 0] 26) := ⟨_, rfl⟩
  have b2 : Bk W2 hb 26 #[.slice none 0 0] := hW2 ▸ Bk.new hhb
  have hf2 : Far (fun _ => False) w W2 := hW2 ▸ hf1'.out.alloc _
  have hbw : w.heap.size ≤ hb := by rw [hhb]; exact hf1'.out.size
  have hti : FT hb w.heap.size [] (fun k => k = hb ∨ (Value.slice none 0 0).ownBlock = some k) W2 := ⟨_, b2, World.ownsRow_nil _ _ _ _, rfl⟩
  have KA := kadd_any (h'.out.still hf2) (fresh_any hs2 hbw) hti (hT'.out.still hf2) (fun k hk e => by
    have := h'.out.lt hk
    rcases e with rfl | e
    · omega
    · cases e) (fun k hk => by
    rcases hk with hk | rfl | e
    · exact htab'.out k hk
    · have := hT'.out.lt; omega
    · cases e) hi hj
  have hf2' := Lib.hid hf2
  have hW2' := Lib.hid hW2
  have hhb' := Lib.hid hhb
  clear hf2 hW2 hhb hti b2
  go_upto_region 5 with fail
  rw [← hhb'.out, ← hW2'.out]
  go_wp2_with fail
  refine KA.mono ?_
  rintro e w3 ⟨rfl, Fs', Fb', Fc', Ft', C', told, hK3, ⟨v3, hb3, ho3, rfl⟩, hm3, hd3, hv3⟩
  obtain ⟨ao, cap, rfl⟩ := q_form ho3
  have c3 : w3.cell? ⟨hb, 0, none⟩ = some (.slice ao told.length cap) := hb3.cell 0
  have hwC' := hK3.cl.within
  have SO := csort_any w.heap.size (.slice ao told.length cap) told w3 ho3 (fun x hx => by
    have := hwC' _ _ ((hm3.mem x).1 hx).1
    omega) (hm3.few hs2 hwC')
  have hK3' := Lib.hid hK3
  have hb3' := Lib.hid hb3
  have ho3' := Lib.hid ho3
  have hm3' := Lib.hid hm3
  have hd3' := Lib.hid hd3
  have hv3' := Lib.hid hv3
  have hwC'' := Lib.hid hwC'
  clear KA hK3 hb3 ho3 hm3 hd3 hv3 hwC'
  go_wp2_with fail
  refine SO.mono ?_
  rintro e w4 ⟨rfl, T', hp, hr, ho4, hf4⟩
  have hne : (Value.slice ao told.length cap).ownBlock ≠ some hb := fun e => by
    obtain ⟨_, _, cs, hb2⟩ := own_type ho3'.out e
    have := bk_type hb2 hb3'.out
    revert this
    decide
  have c4 : w4.cell? ⟨hb, 0, none⟩ = some (.slice ao told.length cap) := (hb3'.out.far' hf4 fun e => hne e).cell 0
  have hsc := sorted_cells (D := lsM C' C) (s := s) hp hr hm3'.out.nod (fun x => by
    rw [hm3'.out.mem]
    unfold lsM
    rw [Bool.and_eq_true, Bool.not_eq_true']) (fun r c e => by
    unfold lsM at e
    rw [Bool.and_eq_true] at e
    exact hwC''.out r c e.1)
  have hlen := hp.length_eq
  have ho4' := Lib.hid ho4
  have hf4' := Lib.hid hf4
  have hsc' := Lib.hid hsc
  have hlen' := Lib.hid hlen
  clear SO hp hr ho4 hf4 hsc hlen c3
  go_wp2_with fail
  go_ret2
  have hkeep : ∀ k, KF B Fs' Fb' Fc' k → ¬ (Value.slice ao told.length cap).ownBlock = some k := fun k hk e => hd3'.out k hk (.inr e)
  refine ⟨_, Fs', Fb', Fc', C', rfl, hK3'.out.kept hf4'.out hkeep, hm3'.out.sub, ?_, fun k hk hk2 => hkeep k hk2 hk, ⟨?_, fun k hk => ?_⟩⟩
  · rw [← hsc'.out]
    have := ho4'.out
    rw [hlen'.out] at this ⊢
    exact this
  · have h1 : Far (fun k => KF B Fs Fb Fc k) w w3 := (hf2'.out.mono fun _ _ h => h.elim).trans hv3'.out.far fun k hk h => by
      rcases h with h | rfl | h
      · exact h
      · omega
      · cases h
    exact h1.trans hf4'.out fun k hk e => by
      have := (ho3'.out.lt k e).1
      omega
  · rcases hv3'.out.more k (.inl hk) with (h | rfl | h) | h
    · exact .inl h
    · exact .inr hbw
    · cases h
    · exact .inr (Nat.le_trans hf2'.out.size h)
end
end Go.Proofs.YtjolkhiggcmoiaaDoor
