/-
  QRFromM: QRFrom, QRFromP.
-/
import Derived.Test.YtjolkhiggcmoiaaGreatDoorQRClosM
import Derived.Test.YtjolkhiggcmoiaaGreatDoorQRGain
import Derived.Test.YtjolkhiggcmoiaaGreatDoorQIRow
import Derived.Test.YtjolkhiggcmoiaaGreatDoorShelf
import Derived.Sort.OwnSortedInts
import Derived.Laws.EntriesVeiled
/-! ## QRFrom: From: what is reached from a row. -/
namespace Go.Proofs.YtjolkhiggcmoiaaGreatDoor
open Go.RowKit Go.Shelf
set_option linter.unusedVariables false
set_option linter.unusedSimpArgs false
theorem int_infoF : (Tryz.prog.info? 3).map (fun i => (i.zero, i.size, i.bytes)) = some (some (.int .i64 0), 1, 8) := by kernel_rfl
/-- What is met, marked in a row and told in a list. -/
def FI (m hm hr g s b0 : Nat) (Fm : Nat → Prop) (M : Nat → Nat → Bool) (G : Nat → Bool) (F : Nat → Prop) (V : World) : Prop :=
  ∃ v l, Bk V hm 62 #[.slice (some ⟨g, 0, none⟩) s s] ∧ BRow V g s G ∧ Bk V hr 30 #[v] ∧ V.ownsRow b0 3 1 v l.length (ncells l) ∧ l.Nodup ∧ (∀ x, x ∈ l ↔ G x = true) ∧ (∀ x, G x = true → x < s) ∧ Mx V m Fm s M ∧ Tab V ∧ (F = fun k => k = g ∨ k = hr ∨ v.ownBlock = some k)
theorem nodup_few {l : List Nat} {s : Nat} (hn : l.Nodup) (h : ∀ x ∈ l, x < s) : l.length ≤ s := by
  have hp : l.Perm ((List.range s).filter fun x => decide (x ∈ l)) := (List.perm_ext_iff_of_nodup hn (List.Pairwise.filter _ List.nodup_range)).2 fun x => by
    rw [List.mem_filter, List.mem_range, decide_eq_true_eq]
    exact ⟨fun h2 => ⟨h x h2, h2⟩, fun h2 => h2.2⟩
  rw [hp.length_eq]
  have := List.length_filter_le (fun x => decide (x ∈ l)) (List.range s)
  simpa using this
section
variable {m hm hr g s b0 : Nat} {Fm : Nat → Prop} {M : Nat → Nat → Bool}
/-- The blocks that From only reads. -/
def FK (hm : Nat) (Fm : Nat → Prop) (k : Nat) : Prop := Fm k ∨ k = hm ∨ k = 0
set_option maxHeartbeats 8000000
set_option maxRecDepth 100000
theorem flw_from (hs : s ≤ 1024) (hb : ∀ k, Fm k → k < b0) (htb : 0 < b0) (hg : b0 ≤ g ∧ b0 ≤ hm ∧ b0 ≤ hr) :
    Flw s (fun _ => false) (fun x => colsM M s x) (FK hm Fm) (FI m hm hr g s b0 Fm M) 23 (.pointer (some ⟨m, 0, none⟩)) 31 #[.pointer (some ⟨hm, 0, none⟩), .pointer (some ⟨hr, 0, none⟩)] where
  within := fun x hx j hj => (mem_colsM.1 hj).1
  few := fun x => Nat.le_trans (colsM_le _ _ _) hs
  erow := enters_of Tryz.func23 (by kernel_rfl) rfl
  ego := enters_of Tryz.func31 (by kernel_rfl) rfl
  lt := by
    rintro G F V ⟨v, l, h1, h2, h3, h4, h5, h6, h7, h8, h9, rfl⟩ k (rfl | rfl | hk)
    · exact Bk.lt h2
    · exact h3.lt
    · exact (h4.lt k hk).2
  still := by
    rintro G F V V' H ⟨v, l, h1, h2, h3, h4, h5, h6, h7, h8, h9, rfl⟩ hf hn hk
    exact ⟨v, l, h1.far' hf (hk _ (.inr (.inl rfl))), Bk.far' h2 hf (hn _ (.inl rfl)), h3.far' hf (hn _ (.inr (.inl rfl))), row_same h4 fun k he hl => hf.block k hl (hn k (.inr (.inr he))), h5, h6, h7, h8.kept hf fun k hk2 => hk _ (.inl hk2), tab_far h9 hf (hk _ (.inr (.inr rfl))), rfl⟩
  row := by
    rintro G F V ⟨v, l, h1, h2, h3, h4, h5, h6, h7, h8, h9, rfl⟩ x hx
    refine (qrow_any h8 h9 x hx).mono ?_
    rintro e w' ⟨v, rfl, h1, h2⟩
    exact ⟨v, _, rfl, h1, h2⟩
  go := by
    rintro G F V ⟨v, l, h1, h2, h3, h4, h5, h6, h7, h8, h9, rfl⟩ x j hx hj
    obtain ⟨ao, cap, rfl⟩ := q_form h4
    have c1 : V.cell? ⟨hm, 0, none⟩ = some (.slice (some ⟨g, 0, none⟩) s s) := h1.cell 0
    have c2 := BRow.get h2 j hj
    have hji : (j : Int) < (s : Int) := by omega
    cases hG : G j with
    | true =>
      rw [hG] at c2
      have ha : addG (fun _ => false) G j = G := addG_old (by simp [hG])
      rw [ha]
      have fin : FI m hm hr g s b0 Fm M G (fun k => k = g ∨ k = hr ∨ (Value.slice ao l.length cap).ownBlock = some k) V := ⟨_, l, h1, h2, h3, h4, h5, h6, h7, h8, h9, rfl⟩
      have fin' := Lib.hid fin
      clear h1 h2 h3 h4 h5 h6 h7 h8 h9 ha hG fin
      go_enter Tryz.func31, Tryz.ntmps31
      go_wp2_with fail
      go_ret
      exact ⟨rfl, _, fin'.out, Mv.still (Far.refl _ _)⟩
    | false =>
      rw [hG] at c2
      have hB : addG (fun _ => false) G j = setB G j := funext fun r => by
        rw [Bool.eq_iff_iff, addG_iff]
        unfold setB
        split
        · rename_i e; exact ⟨fun _ => rfl, fun _ => .inr ⟨e, rfl⟩⟩
        · rename_i e; exact ⟨fun h => h.elim id fun h => absurd h.1 e, fun h => .inl h⟩
      rw [hB]
      have hjl : j ∉ l := fun h => by have := (h6 j).1 h; rw [hG] at this; cases this
      have hll : l.length ≤ s := nodup_few h5 fun x hx => h7 x ((h6 x).1 hx)
      obtain ⟨i0, hi0, hz0, hz1, hz2⟩ := info_parts int_infoF
      have fr := BRow.free h2 j
      have hgm : g ≠ hm := fun e => by subst e; have := bk_type h1 h2; revert this; decide
      have hgr : g ≠ hr := fun e => by subst e; have := bk_type h3 h2; revert this; decide
      have hmr : hm ≠ hr := fun e => by subst e; have := bk_type h1 h3; revert this; decide
      have hog : ∀ k, (Value.slice ao l.length cap).ownBlock = some k → k ≠ g ∧ k ≠ hr ∧ k ≠ hm := fun k hk => by
        obtain ⟨_, _, cs, hb2⟩ := own_type h4 hk
        refine ⟨fun e => ?_, fun e => ?_, fun e => ?_⟩
        · subst e; have := bk_type hb2 h2; revert this; decide
        · subst e; have := bk_type hb2 h3; revert this; decide
        · subst e; have := bk_type hb2 h1; revert this; decide
      obtain ⟨n, hn⟩ : ∃ n, l.length = n := ⟨_, rfl⟩
      rw [hn] at h3 h4 hll hog ⊢
      obtain ⟨W1, hW1⟩ : ∃ W, W = V.setCell ⟨g, j, none⟩ (.bool true) := ⟨_, rfl⟩
      have p2 : BRow W1 g s (setB G j) := hW1 ▸ BRow.put h2 j
      have hfV : Far (fun k => k = g) V W1 := hW1 ▸ (Far.refl (fun k => k = g) V).set _ _ fun _ => rfl
      have p1 : Bk W1 hm 62 #[.slice (some ⟨g, 0, none⟩) s s] := h1.far' hfV fun e => hgm e.symm
      have p3 : Bk W1 hr 30 #[.slice ao n cap] := h3.far' hfV fun e => hgr e.symm
      have p4 : W1.ownsRow b0 3 1 (.slice ao n cap) n (ncells l) := row_same h4 fun k hk hl => hfV.block k hl (hog k hk).1
      have hbW : b0 ≤ W1.heap.size := by have := Bk.lt p2; omega
      have c3 : W1.cell? ⟨hr, 0, none⟩ = some (.slice ao n cap) := p3.cell 0
      have A1 := Lib.hid (p4.alloc (.cells #[.int .i64 (j : Nat)] 3))
      have A2 := Lib.hid (World.news_of_block (w := W1.alloc (.cells #[.int .i64 (j : Nat)] 3)) (cs := #[.int .i64 (j : Nat)]) (t := 3) (fr := (0, 0)) (heap_alloc_new W1 _))
      have A3 : ∀ u ∈ (#[.int .i64 (j : Nat)] : Array Value).toList, u.oneCell' = true := fun u hu => by simp at hu; subst hu; rfl
      have A4 : n + 1 ≤ maxLen := by unfold maxLen; omega
      have A5 : (n + 1) * 8 ≤ 140737488355328 := by omega
      have A7 : b0 ≤ (W1.alloc (.cells #[.int .i64 (j : Nat)] 3)).heap.size := by simp; omega
      have hn8 : (Value.slice ao n cap).ownBlock ≠ some hr := fun e => (hog hr e).2.1 rfl
      have keep := Lib.hid (show ∀ W H, Far H V W → (∀ k, H k → k = g ∨ k = hr ∨ (Value.slice ao n cap).ownBlock = some k) → Mx W m Fm s M ∧ Tab W from fun W H hf hH => ⟨h8.kept hf fun k hk e => by
          have := hb k hk
          rcases hH k e with rfl | rfl | e
          · omega
          · omega
          · have := (h4.lt k e).1; omega, tab_far h9 hf fun e => by
          rcases hH _ e with e | e | e
          · omega
          · omega
          · have := (h4.lt _ e).1; omega⟩)
      have lists := Lib.hid (show (l ++ [j]).Nodup ∧ (∀ x, x ∈ l ++ [j] ↔ setB G j x = true) ∧ (∀ x, setB G j x = true → x < s) from ⟨List.nodup_append.2 ⟨h5, by simp, fun a ha b hb2 e => by rw [List.mem_singleton] at hb2; subst hb2; subst e; exact hjl ha⟩, fun x => by
          rw [List.mem_append, List.mem_singleton, h6]
          unfold setB
          split
          · rename_i e; exact ⟨fun _ => rfl, fun _ => .inr e⟩
          · rename_i e; exact ⟨fun h => h.elim id fun h => absurd h e, .inl⟩, fun x hx2 => by
          unfold setB at hx2
          split at hx2
          · rename_i e; subst e; exact hj
          · exact h7 x hx2⟩)
      have p1' := Lib.hid p1
      have p2' := Lib.hid p2
      have p3' := Lib.hid p3
      have p4' := Lib.hid p4
      have hog' := Lib.hid hog
      have hfV' := Lib.hid hfV
      have hn' := Lib.hid hn
      have hW1' := Lib.hid hW1
      clear h1 h2 h3 h4 h5 h6 h7 h8 h9 p1 p2 p3 p4 hog hfV hn hB hG hjl hW1
      go_enter Tryz.func31, Tryz.ntmps31
      go_upto_region 4 with fail
      rw [← hW1'.out]
      go_wp2_with (at_builtin; refine wpList_append_lies _ rfl _ _ 30 rfl b0 3 i0 _ 1 8 Tryz.underlying30 hi0 hz0 hz1 hz2 rfl (by decide) (.slice ao n cap) n _ rfl A1.out ⟨W1.heap.size, 0, none⟩ 1 1 (#[.int .i64 (j : Nat)] : Array Value).toList rfl rfl A2.out A3 (by decide) A4 A5 A7 _ rfl ?_; intro fg fc w4 ho4 hg4 hat4 hl4; have b84 : Bk w4 hr 30 #[.slice ao n cap] := (p3'.out.alloc _).grownR hg4 (fun e => hn8 e.symm); have f84 := b84.free 0; have c84 : w4.cell? ⟨hr, 0, none⟩ = some (.slice ao n cap) := b84.cell 0; have b84' := Lib.hid b84; have ho4' := Lib.hid ho4; have hg4' := Lib.hid hg4; have hat4' := Lib.hid hat4; clear ho4 hg4 hat4 b84)
      go_ret
      have b1 : Bk w4 hm 62 #[.slice (some ⟨g, 0, none⟩) s s] := (p1'.out.alloc _).grownR hg4'.out fun e => (hog'.out hm e.symm).2.2 rfl
      have b2 : Bk w4 g 4 (bcells s (setB G j)) := (Bk.alloc p2'.out _).grownR hg4'.out fun e => (hog'.out g e.symm).1 rfl
      have hne : fg ≠ hr := fun e => by
        subst e
        obtain ⟨_, _, cs, hb2⟩ := own_type ho4'.out rfl
        have := bk_type hb2 b84'.out
        revert this
        decide
      have hfar : Far (fun k => k = g ∨ k = hr ∨ (Value.slice ao n cap).ownBlock = some k) V (w4.setCell ⟨hr, 0, none⟩ (.slice (some ⟨fg, 0, none⟩) (n + 1) fc)) := ((hfV'.out.mono (G := fun k => k = g ∨ k = hr ∨ (Value.slice ao n cap).ownBlock = some k) fun k _ e => .inl e).alloc _ |>.grown hg4'.out fun k hk e => .inr (.inr e)).set _ _ fun _ => .inr (.inl rfl)
      obtain ⟨k1, k2⟩ := keep.out _ _ hfar fun k h => h
      obtain ⟨l1, l2, l3⟩ := lists.out
      refine ⟨rfl, _, ⟨.slice (some ⟨fg, 0, none⟩) (n + 1) fc, l ++ [j], Bk.far b1 (p := ⟨hr, 0, none⟩) hmr _, Bk.far b2 (p := ⟨hr, 0, none⟩) hgr _, b84'.out.set 0 _, ?_, l1, l2, l3, k1, k2, rfl⟩, hfar, ?_⟩
      · rw [List.length_append, List.length_singleton, hn'.out, ncells_snoc]
        exact row_same ho4'.out fun k hk hl => heap_setCell_other _ _ _ _ fun e => by
          cases hk
          exact hne e
      · rintro k (rfl | rfl | hk)
        · exact .inl (.inl rfl)
        · exact .inl (.inr (.inl rfl))
        · cases hk
          rcases hat4'.out with e | e
          · exact .inl (.inr (.inr e))
          · refine .inr ?_
            have := hfV'.out.size
            rw [e]
            simp
            omega
theorem sort_farI {w : World} {g n : Nat} {os : Array Obj} (d : Array Int) : Far (fun k => k = g) w (Sort.grow (Sort.putRow (Value.int .i64) (Sort.ahead w n) g 0 d) os) := by
  have h := grownBy_sortedI (w := w) (g := g) (n := n) (os := os) d
  exact (Far.refl (fun k => k = g) w).grown h fun k _ e => by cases e; rfl
theorem isort_any {w : World} {v : Value} {l l2 : List Nat} (hO : w.ownsRow b0 3 1 v l.length (ncells l)) (hl : l.length ≤ 1024) (hp : l.Perm l2) (hr : l2.Pairwise (· < ·)) :
    Calls Tryz.prog 32 #[v] w fun e w' => e = .returned (.tuple #[]) ∧ w'.ownsRow b0 3 1 v l2.length (ncells l2) ∧ Far (fun k => v.ownBlock = some k) w w' := by
  have hle := hp.length_eq
  rcases hO.2 with ⟨h0, hn⟩ | ⟨g, cap, cur, rfl, hB, hbk, hcap, hmax, hsz, htk⟩
  · obtain ⟨ao, c, rfl⟩ := q_form hO
    have e1 : l = [] := List.eq_nil_of_length_eq_zero hn
    subst e1
    have e2 : l2 = [] := List.eq_nil_of_length_eq_zero (by rw [← hle]; rfl)
    subst e2
    refine Calls.mono (Tryz.slices_Sort_int_none ao c w) ?_
    rintro e w' ⟨rfl, rfl⟩
    exact ⟨rfl, hO, Far.refl _ _⟩
  · have hgl : g < w.heap.size := (Array.getElem?_eq_some_iff.1 hbk).1
    have hll : (l.map (Int.ofNat)).length = l.length := by simp
    have htk2 : cur.toList.take (l.map Int.ofNat).length = (l.map Int.ofNat).map (Value.int .i64) := by
      rw [hll, List.map_map]
      rw [Nat.mul_one] at htk
      rw [htk]
      rfl
    have hH := holds_of_blockI hbk htk2
    have hcon := Tryz.slices_Sort_int g 0 cap (l.map Int.ofNat) w hH hgl (by rw [hll]; omega)
    rw [hll] at hcon
    refine Calls.mono hcon ?_
    rintro e w' ⟨rfl, n, os, rfl⟩
    have hsort : (l.map Int.ofNat).mergeSort (fun x y => decide (x ≤ y)) = l2.map Int.ofNat := by
      have p1 : ((l.map Int.ofNat).mergeSort (fun x y => decide (x ≤ y))).Perm (l2.map Int.ofNat) := (List.mergeSort_perm _ _).trans (hp.map _)
      refine p1.eq_of_pairwise (le := (· ≤ ·)) (fun a b _ _ h1 h2 => Int.le_antisymm h1 h2) ?_ ?_
      · have := List.pairwise_mergeSort (le := fun x y : Int => decide (x ≤ y)) (fun a b c h1 h2 => by simp at *; omega) (fun a b => by simp; omega) (l.map Int.ofNat)
        exact this.imp fun h => by simpa using h
      · rw [List.pairwise_map]
        exact hr.imp fun h => by simp; omega
    rw [hsort]
    refine ⟨rfl, ?_, (sort_farI _).mono fun k _ e => by rw [e]; rfl⟩
    have := ownsRow_sortedI (base := b0) (ss := l.map Int.ofNat) (ts := l2.map Int.ofNat) (n := n) (os := os) (by simp [hle]) hB hbk (by rw [hll]; exact hcap) hmax hsz
    rw [hll, hle] at this
    rw [← hle] at this ⊢
    rw [hle] at this ⊢
    have e3 : ncells l2 = (l2.map Int.ofNat).map (Value.int .i64) := by rw [List.map_map]; rfl
    rw [e3]
    rw [← hle] at this ⊢
    exact this
end
end Go.Proofs.YtjolkhiggcmoiaaGreatDoor
/-! ## QRFromP: From: the answer. -/
namespace Go.Proofs.YtjolkhiggcmoiaaGreatDoor
open Go.RowKit Go.Shelf
set_option linter.unusedVariables false
set_option linter.unusedSimpArgs false
section
set_option maxHeartbeats 8000000
set_option maxRecDepth 100000
theorem from_yes {w : World} {m s : Nat} {Fm : Nat → Prop} {M C : Nat → Nat → Bool} (h : Mx w m Fm s M) (hT : Tab w) (hC : IsClo M C) (i : Nat) (hi : i < s) :
    Calls Tryz.prog 8 #[.pointer (some ⟨m, 0, none⟩), .int .i64 (i : Nat)] w fun e w' => ∃ v, e = .returned (.tuple #[v, .int .i64 0]) ∧ w'.ownsRow w.heap.size 3 1 v (colsM C s i).length (ncells (colsM C s i)) ∧ Far (fun _ => False) w w' := by
  have AB := absent_no h
  have hs2 := h.sides.2
  have hji : (i : Int) < (s : Int) := by omega
  have MK := Lib.hid (make_bools s (by omega))
  have h' := Lib.hid h
  have hT' := Lib.hid hT
  have hC' := Lib.hid hC
  clear h hT hC
  go_enter Tryz.func8, Tryz.ntmps8
  go_wp2_with fail
  refine AB.mono ?_
  rintro e w1 ⟨rfl, hf1⟩
  have S1 := (h'.out.still hf1).side
  have hf1' := Lib.hid hf1
  clear AB hf1
  go_wp2_with fail
  refine S1.mono ?_
  rintro e w' ⟨rfl, rfl⟩
  clear S1
  obtain ⟨hr, hhr⟩ : ∃ h, h = w1.heap.size := ⟨_, rfl⟩
  obtain ⟨W2, hW2⟩ : ∃ V, V = w1.alloc (.cells #[.slice none 0 0] 30) := ⟨_, rfl⟩
  have hf2 : Far (fun _ => False) w W2 := hW2 ▸ hf1'.out.alloc _
  have br : Bk W2 hr 30 #[.slice none 0 0] := hW2 ▸ Bk.new hhr
  have S2 := (h'.out.still hf2).side
  have hf2' := Lib.hid hf2
  have br' := Lib.hid br
  have hhr' := Lib.hid hhr
  have hW2' := Lib.hid hW2
  clear hf2 br hhr hW2
  go_upto_region 6 with fail
  rw [← hhr'.out, ← hW2'.out]
  go_wp2_with fail
  refine S2.mono ?_
  rintro e w' ⟨rfl, rfl⟩
  clear S2
  have MK2 := MK.out W2
  obtain ⟨g, hg⟩ : ∃ h, h = W2.heap.size := ⟨_, rfl⟩
  obtain ⟨W3, hW3⟩ : ∃ V, V = W2.alloc (.cells (bcells s fun _ => false) 4) := ⟨_, rfl⟩
  rw [← hg, ← hW3] at MK2
  have hg' := Lib.hid hg
  have hW3' := Lib.hid hW3
  clear hg hW3
  go_upto_region 7 with fail
  obtain ⟨hm, hhm⟩ : ∃ h, h = W3.heap.size := ⟨_, rfl⟩
  obtain ⟨W4, hW4⟩ : ∃ V, V = W3.alloc (.cells #[.slice (some ⟨g, 0, none⟩) s s] 62) := ⟨_, rfl⟩
  rw [← hhm, ← hW4]
  have hw12 : w.heap.size ≤ w1.heap.size := hf1'.out.size
  have hz2 : W2.heap.size = w1.heap.size + 1 := by rw [hW2'.out]; simp
  have hz3 : W3.heap.size = W2.heap.size + 1 := by rw [hW3'.out]; simp
  have hf3 : Far (fun _ => False) w W3 := hW3'.out ▸ hf2'.out.alloc _
  have hf4 : Far (fun _ => False) w W4 := hW4 ▸ hf3.alloc _
  have b1 : Bk W4 hm 62 #[.slice (some ⟨g, 0, none⟩) s s] := hW4 ▸ Bk.new hhm
  have b2 : BRow W4 g s (fun _ => false) := by
    have : Bk W3 g 4 (bcells s fun _ => false) := hW3'.out ▸ Bk.new hg'.out
    exact hW4 ▸ this.alloc _
  have b3 : Bk W4 hr 30 #[.slice none 0 0] := by
    have : Bk W3 hr 30 #[.slice none 0 0] := hW3'.out ▸ br'.out.alloc _
    exact hW4 ▸ this.alloc _
  have e1 := hhr'.out
  have e2 := hg'.out
  have hFI : FI m hm hr g s w.heap.size Fm M (fun _ => false) (fun k => k = g ∨ k = hr ∨ (Value.slice none 0 0).ownBlock = some k) W4 := ⟨.slice none 0 0, [], b1, b2, b3, World.ownsRow_nil _ _ _ _, List.nodup_nil, fun x => by simp, fun x e => (by cases e), h'.out.still hf4, hT'.out.still hf4, rfl⟩
  have FL := flow_any hs2 (flw_from hs2 (fun k hk => h'.out.lt k hk) hT'.out.lt ⟨by omega, by omega, by omega⟩) hFI (fun k hk => by
    rcases hk with hk | rfl | rfl
    · have := h'.out.lt k hk; have := hf4.size; omega
    · exact b1.lt
    · exact (hT'.out.still hf4).lt) hi
  have hf4' := Lib.hid hf4
  have hsz := Lib.hid (show w.heap.size ≤ g ∧ w.heap.size ≤ hr ∧ w.heap.size ≤ hm from ⟨by omega, by omega, by omega⟩)
  have hhm' := Lib.hid hhm
  have hW4' := Lib.hid hW4
  clear hhm hW4 b1 b2 b3 hFI hf3 hf4 e1 e2 hw12 hz2 hz3
  go_wp2_with fail
  refine FL.mono ?_
  rintro e w5 ⟨rfl, G, F5, hS, ⟨v, l, p1, p2, p3, p4, p5, p6, p7, p8, p9, rfl⟩, hv5⟩
  have hclo := met_clo (M := M) (G := G) (i := i) (fun x hx j hj => by
    rcases hS.done x (hx.imp id fun e => ⟨e, rfl⟩) with h | h | h
    · cases h
    · cases h
    · exact (h j (mem_colsM.2 ⟨(p8.within _ _ hj).2, hj⟩)).resolve_left (by simp)) (fun x hx => by
    have hall := hS.reach (fun y => y = i ∨ TC M i y) (.inl rfl) (fun a b ha hb => by
      have hab := (mem_colsM.1 hb).2
      rcases ha with rfl | ha
      · exact .inr (.one hab)
      · exact .inr (ha.trans (.one hab)))
    obtain ⟨a, ha, hb⟩ := hS.step x hx rfl
    have hab := (mem_colsM.1 hb).2
    have : a = i ∨ TC M i a := ha.elim .inl fun ha => hall a (.inr (.inr ha))
    rcases this with rfl | ha
    · exact .one hab
    · exact ha.trans (.one hab))
  have hmem : ∀ x, x ∈ l ↔ x ∈ colsM C s i := fun x => by
    rw [p6, hclo, mem_colsM, hC'.out i x]
    exact ⟨fun h => ⟨(h.within p8.within).2, h⟩, fun h => h.2⟩
  have hperm : l.Perm (colsM C s i) := (List.perm_ext_iff_of_nodup p5 ((colsM_rise C s i).imp fun h => Nat.ne_of_lt h)).2 hmem
  have hll : l.length ≤ s := nodup_few p5 fun x hx => p7 x ((p6 x).1 hx)
  have SO := isort_any p4 (by omega) hperm (colsM_rise C s i)
  obtain ⟨ao, cap, rfl⟩ := q_form p4
  have c3 : w5.cell? ⟨hr, 0, none⟩ = some (.slice ao l.length cap) := p3.cell 0
  have hne : (Value.slice ao l.length cap).ownBlock ≠ some hr := fun e => by
    obtain ⟨_, _, cs, hb2⟩ := own_type p4 e
    have := bk_type hb2 p3
    revert this
    decide
  have p3' := Lib.hid p3
  have p4' := Lib.hid p4
  have hv5' := Lib.hid hv5
  have hle := Lib.hid hperm.length_eq
  clear FL hS p1 p2 p3 p4 p5 p6 p7 p8 p9 hv5 hclo hmem hperm hll
  go_wp2_with fail
  refine SO.mono ?_
  rintro e w6 ⟨rfl, ho6, hf6⟩
  have c6 : w6.cell? ⟨hr, 0, none⟩ = some (.slice ao l.length cap) := (p3'.out.far' hf6 fun e => hne e).cell 0
  have ho6' := Lib.hid ho6
  have hf6' := Lib.hid hf6
  clear SO ho6 hf6 c3
  go_wp2_with fail
  go_ret2
  obtain ⟨z1, z2, z3⟩ := hsz.out
  refine ⟨_, rfl, ho6'.out, ?_⟩
  refine (hf4'.out.trans hv5'.out.far (F := fun _ => False) fun k hk e => ?_).trans hf6'.out fun k hk e => ?_
  · rcases e with rfl | rfl | e
    · omega
    · omega
    · cases e
  · have := (p4'.out.lt k e).1
    omega
end
end Go.Proofs.YtjolkhiggcmoiaaGreatDoor
