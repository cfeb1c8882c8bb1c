/-
  CfgHeads walked.
-/
import Derived.Test.YtfgoghmhjbhbiaaHeadsSeq
import Derived.Test.YtfgoghmhjbhbiaaHead12
namespace Go.Proofs.Ytfgoghmhjbhbiaa
open Go.RowKit Go.Shelf
set_option linter.unusedVariables false
set_option linter.unusedSimpArgs false
attribute [local go_sem] Oper.semAt_some
theorem fnd_pl {nt : Int} {T T' : List Tr} (h : T'.map pl = T.map pl) : ∀ m, fnd nt T' m = fnd nt T m
  | 0 => rfl
  | m + 1 => by
    have ih := fnd_pl (nt := nt) h m
    have hm := congrArg (fun l => l[m]?) h
    simp only [List.getElem?_map] at hm
    unfold fnd
    rw [ih]
    cases h1 : T'[m]? with
    | none =>
      cases h2 : T[m]? with
      | none => rfl
      | some t => rw [h1, h2] at hm; cases hm
    | some t' =>
      cases h2 : T[m]? with
      | none => rw [h1, h2] at hm; cases hm
      | some t =>
        rw [h1, h2] at hm
        have e : pl t' = pl t := Option.some.inj hm
        have e1 : t'.1 = t.1 := (congrArg Prod.fst e : (pl t').1 = (pl t).1)
        have e2 : t'.2.2 = t.2.2 := (congrArg Prod.snd e : (pl t').2 = (pl t).2)
        dsimp only
        rw [e1, e2]
theorem pl_mem {T T' : List Tr} (h : T'.map pl = T.map pl) {t : Tr} (ht : t ∈ T') : ∃ u ∈ T, u.2.2 = t.2.2 := by
  have h1 : pl t ∈ T'.map pl := List.mem_map.2 ⟨t, ht, rfl⟩
  rw [h] at h1
  obtain ⟨u, hu, e⟩ := List.mem_map.1 h1
  exact ⟨u, hu, (congrArg Prod.snd e : (pl u).2 = (pl t).2)⟩
theorem src_kept {B sz m : Nat} {w w' : World} {row : Option Nat} {v : Value} {xs : List Value} (h : Src w sz v m xs) (hg : w.grownBy w' row) (hr : ∀ r, row = some r → B ≤ r ∧ ∃ o : Obj, w.heap[r]? = some o ∧ o.isCells = false) : Src w' sz v m xs :=
  ⟨h.1, h.2.imp id fun ⟨a, c, e, hc⟩ => ⟨a, c, e, fun j u hu => ⟨Nat.lt_of_lt_of_le (hc j u hu).1 hg.size, cell_kept (hc j u hu).2 hg fun r e => (hr r e).2⟩⟩⟩
theorem info_int1 : (Try.prog.info? 3).map (fun i => (i.zero, i.size, i.bytes)) = some (some (.int .i64 0), 1, 8) := by kernel_rfl
/-- The slots of a round. -/
def hslots (T : Array Value) (x : Tr) : Act := { tmps := (((T.setIfInBounds 38 (.int .i64 x.1)).setIfInBounds 39 x.2.1).setIfInBounds 11 (.int .i64 x.1)).setIfInBounds 12 x.2.1, defers := [] }
def FH (bk bn : Nat) (k : Nat) : Prop := k = bk ∨ k = bn
def HTurn (L : List (Int × List Sy)) (W0 : World) (bk bn : Nat) (pre : List Tr) (W : World) : Prop :=
  Far (FH bk bn) W0 W ∧ Bk W bk 3 #[.int .i64 (pre.length : Int)] ∧ Bk W bn 3 #[.int .i64 0]
def XHTurn (W0 : World) (bk bn : Nat) (c : Code) (pre : List Tr) (W : World) : Prop :=
  c = .exit 2 ∧ Far (FH bk bn) W0 W ∧ Bk W bk 3 #[.int .i64 (pre.length : Int)] ∧ Bk W bn 3 #[.int .i64 1]
theorem heads_turn {g : Operand} {assign body : Code} {Q : Exit → Act → World → Prop} {T : Array Value} {ds : List Deferred} {W0 : World} (L : List (Int × List Sy)) (kL bk bn : Nat) (K : Nat → Prop)
    (hg : (Act.mk T ds).eval g = .func (.func 34) #[] #[.pointer (some ⟨kL, 0, none⟩)])
    (hseq : SeqOk (10 - 1) Try.prog 34 #[.pointer (some ⟨kL, 0, none⟩)] hencs (HOk L) (KeepK K) (fun xs => xs.map pl = L) (fun pre => pre.map pl <+: L) W0)
    (hKl : ∀ k, K k → k < W0.heap.size) (hKn : ∀ k, K k → ¬ FH bk bn k) (hbk : Bk W0 bk 3 #[.int .i64 0]) (hbn : Bk W0 bn 3 #[.int .i64 0])
    (hexit : ∀ a W, Q .normal a W → (Code.exit 2).wp Try.prog Q a W)
    (hassign : ∀ (l : Nat) (x : Tr) (W : World) (K : Act → World → Prop), K (hslots T x) W →
      assign.wpIn (Fence.wide.inRound l) (10 - 1 - 1) Try.prog (Exit.then K (fun _ _ _ => False)) { tmps := (T.setIfInBounds 38 (.int .i64 x.1)).setIfInBounds 39 x.2.1, defers := [] } W)
    (hbody : ∀ (l : Nat) (pre : List Tr) (x : Tr) (W : World), HTurn L W0 bk bn pre W → HOk L pre x W →
      body.wpIn (Fence.wide.inRound l) (10 - 1 - 1) Try.prog (ownPostG W0.heap.size (fun A B => Far (FH bk bn) A B) (HTurn L W0 bk bn) (XHTurn W0 bk bn) (pre ++ [x]) W) (hslots T x) W)
    (hafter : ∀ (D j n : Nat) (W : World), W0.heap.size ≤ D → Far (FH bk bn) W0 W → Bk W bk 3 #[.int .i64 (j : Int)] → Bk W bn 3 #[.int .i64 (n : Int)] → W.heap[D]? = some (.deferred (some [])) → (j = L.length ∧ n = 0) ∨ n = 1 → Q .normal { tmps := T, defers := { target := .collected D, args := #[] } :: ds } W) :
    (Code.rangeFunc g #[38, 39] assign body).wp Try.prog Q { tmps := T, defers := ds } W0 := by
  refine (wpIn_wide (n := 10)).1 ?_
  refine range_ok (by decide) hg (enters_of Try.func34 (by kernel_rfl) rfl) hseq keepK_t ?keep (fun _ => rfl) (HTurn L W0 bk bn) (XHTurn W0 bk bn)
    (fun s A B row hs hg hr => ⟨far_own hs.1 hg hr, hs.2.1.kept hg hr, hs.2.2.kept hg hr⟩) (fun c s A B row hs hg hr => ⟨hs.1, far_own hs.2.1 hg hr, hs.2.2.1.kept hg hr, hs.2.2.2.kept hg hr⟩)
    ⟨Far.refl _ W0, hbk, hbn⟩ (fun pre x a' W => a' = hslots T x ∧ HOk L pre x W) (fun pre x a' s A B row hs hg hr => ⟨hs.1, hs.2.1, src_kept hs.2.2 hg hr⟩) ?assign ?body ?done ?stop
  case keep =>
    intro W l o o' hl h ho k hk
    have := hKl k hk
    exact World.putObj_heap_other (by omega)
  case assign =>
    intro l pre x W KK hI hok hK
    have e : ((#[38, 39] : Array Tmp).zip (hencs x)).foldl (fun t (p, v) => t.setIfInBounds p v) T = (T.setIfInBounds 38 (.int .i64 x.1)).setIfInBounds 39 x.2.1 := by simp [hencs]
    show assign.wpIn _ _ _ _ { tmps := ((#[38, 39] : Array Tmp).zip (hencs x)).foldl (fun t (p, v) => t.setIfInBounds p v) T, defers := [] } W
    rw [e]
    exact hassign l x W KK (hK _ _ (KeepsFrom.refl _ _) (fun _ _ => rfl) hI ⟨rfl, hok⟩)
  case body =>
    rintro l pre x a' W hl hI ⟨rfl, hok⟩
    refine wpIn_mono (hbody l pre x W hI hok) fun e a' W' h => ?_
    cases e with
    | normal => exact ⟨h.1, KeepK.of_far h.2.1 fun k hk => ⟨Nat.lt_of_lt_of_le (hKl k hk) hI.1.size, hKn k hk⟩, h.2.2⟩
    | _ => exact h
  case done =>
    intro D xs W hD hxs hI hK
    refine hafter D xs.length 0 W hD hI.1 hI.2.1 hI.2.2 hK (.inl ⟨?_, rfl⟩)
    have := congrArg List.length (show xs.map pl = L from hxs)
    rwa [List.length_map] at this
  case stop =>
    rintro D c pre W hD hS ⟨rfl, h1, h2, h3⟩ hK
    exact wpIn_wide.2 (hexit _ _ (hafter D pre.length 1 W hD h1 h2 h3 hK (.inr rfl)))
section
set_option maxHeartbeats 8000000
set_option maxRecDepth 100000
theorem hd12_law (S : Int) (pv : Value) (T : List Tr) (nt m : Int) (w : World) (hP : Prods w pv T) (hs : T.length * 32 ≤ 140737488351232) (hs2 : ∀ t ∈ T, t.2.2.length * 16 ≤ 140737488351232) :
    Calls Try.prog 5 #[.agg #[.int .i64 S, pv], .int .i64 nt, .int .i64 m] w fun e w' => e = .returned (.bool true) ∧ Far (fun _ => False) w w' := by
  obtain ⟨L, hL⟩ : ∃ L, L = fnd nt T T.length := ⟨_, rfl⟩
  have hLl : L.length ≤ T.length := hL ▸ fnd_len nt T T.length
  obtain ⟨h0, hh0⟩ : ∃ h, h = w.heap.size := ⟨_, rfl⟩
  obtain ⟨h1, hh1⟩ : ∃ h, h = h0 + 1 := ⟨_, rfl⟩
  obtain ⟨h2, hh2⟩ : ∃ h, h = h1 + 1 := ⟨_, rfl⟩
  obtain ⟨ao, ac, rfl⟩ := Src.form hP.1
  obtain ⟨w0, hw0⟩ : ∃ w0, w0 = w.alloc (.cells #[.int .i64 S, .slice ao T.length ac] 24) := ⟨_, rfl⟩
  obtain ⟨w1, hw1⟩ : ∃ w1, w1 = w0.alloc (.cells #[.int .i64 m] 3) := ⟨_, rfl⟩
  obtain ⟨W, hW⟩ : ∃ W, W = w1.alloc (.cells #[.bool false] 4) := ⟨_, rfl⟩
  have z0 : w0.heap.size = h1 := by rw [hw0]; simp [hh1, hh0]
  have z1 : w1.heap.size = h2 := by rw [hw1]; simp [hh2, z0]
  have z2 : W.heap.size = h2 + 1 := by rw [hW]; simp [z1]
  have hA : Bk W h0 24 #[.int .i64 S, .slice ao T.length ac] := hW ▸ (hw1 ▸ (hw0 ▸ Bk.new hh0 : Bk w0 h0 24 #[.int .i64 S, .slice ao T.length ac]).alloc _ : Bk w1 h0 24 #[.int .i64 S, .slice ao T.length ac]).alloc _
  have hC : Bk W h1 3 #[.int .i64 m] := hW ▸ (hw1 ▸ Bk.new z0.symm : Bk w1 h1 3 #[.int .i64 m]).alloc _
  have hR : Bk W h2 4 #[.bool false] := hW ▸ Bk.new z1.symm
  have hF : Far (fun _ => False) w W := hW ▸ (hw1 ▸ (hw0 ▸ (Far.refl _ w).alloc _ : Far (fun _ => False) w w0).alloc _ : Far (fun _ => False) w w1).alloc _
  have hP0 := Lib.hid (hP.move hF)
  have hs' : T.length ≤ 4398046510976 := by omega
  have hs2' := Lib.hid hs2
  have hL' := Lib.hid hL
  have hh0' := Lib.hid hh0
  have hh1' := Lib.hid hh1
  have hh2' := Lib.hid hh2
  have hw0' := Lib.hid hw0
  have hw1' := Lib.hid hw1
  have hW' := Lib.hid hW
  have hA' := Lib.hid hA
  have hC' := Lib.hid hC
  have hR' := Lib.hid hR
  have hF' := Lib.hid hF
  have z2' := Lib.hid z2
  clear hL hP hs2 hh0 hh1 hh2 hw0 hw1 hW z0 z1 z2 hA hC hR hF
  refine (callsIn_wide (n := 10)).1 (callsIn_of_wp_marks Try.func5 rfl trivial (wpIn_wide.2 ?_) rfl)
  simp only [Try.ntmps5, List.size_toArray, List.length_cons, List.length_nil, Nat.reduceAdd, Nat.reduceSub, Array.replicate_succ, Array.replicate_zero, List.push_toArray, List.append_toArray, List.nil_append, List.cons_append]
  go_upto_region 1 with fail
  rw [← hh0'.out, ← hh1'.out, ← hh2'.out, ← hw0'.out, ← hw1'.out, ← hW'.out]
  go_wp2_with fail
  refine (head12_any _).mono ?_
  rintro e w2 ⟨rfl, hf2⟩
  have hf2' := Lib.hid hf2
  clear hf2
  go_upto_region 5 with fail
  obtain ⟨k7, hk7⟩ : ∃ k, k = w2.heap.size := ⟨_, rfl⟩
  obtain ⟨k8, hk8⟩ : ∃ k, k = k7 + 1 := ⟨_, rfl⟩
  obtain ⟨k9, hk9⟩ : ∃ k, k = k8 + 1 := ⟨_, rfl⟩
  obtain ⟨v7, hv7⟩ : ∃ v, v = w2.alloc (.cells #[.int .i64 0] 3) := ⟨_, rfl⟩
  obtain ⟨v8, hv8⟩ : ∃ v, v = v7.alloc (.cells #[.int .i64 0] 3) := ⟨_, rfl⟩
  obtain ⟨v9, hv9⟩ : ∃ v, v = v8.alloc (.cells #[.slice none 0 0] 34) := ⟨_, rfl⟩
  have y7 : v7.heap.size = k8 := by rw [hv7]; simp [hk8, hk7]
  have y8 : v8.heap.size = k9 := by rw [hv8]; simp [hk9, y7]
  have y9 : v9.heap.size = k9 + 1 := by rw [hv9]; simp [y8]
  have hN9 : Bk v9 k7 3 #[.int .i64 0] := hv9 ▸ (hv8 ▸ (hv7 ▸ Bk.new hk7 : Bk v7 k7 3 #[.int .i64 0]).alloc _ : Bk v8 k7 3 #[.int .i64 0]).alloc _
  have hZ9 : Bk v9 k8 3 #[.int .i64 0] := hv9 ▸ (hv8 ▸ Bk.new y7.symm : Bk v8 k8 3 #[.int .i64 0]).alloc _
  have hL9 : Bk v9 k9 34 #[.slice none 0 0] := hv9 ▸ Bk.new y8.symm
  have hF9 : Far (fun _ => False) w2 v9 := hv9 ▸ (hv8 ▸ (hv7 ▸ (Far.refl _ w2).alloc _ : Far (fun _ => False) w2 v7).alloc _ : Far (fun _ => False) w2 v8).alloc _
  rw [← hk7, ← hk8, ← hk9, ← hv7, ← hv8, ← hv9]
  have hW9 := Lib.hid (hf2'.out.then hF9)
  have hk7w := Lib.hid (show W.heap.size ≤ k7 by have := hf2'.out.size; omega)
  have hk8' := Lib.hid hk8
  have hk9' := Lib.hid hk9
  have y9' := Lib.hid y9
  have hN9' := Lib.hid hN9
  have hZ9' := Lib.hid hZ9
  have hL9' := Lib.hid hL9
  clear hk7 hk8 hk9 hv7 hv8 hv9 y7 y8 y9 hN9 hZ9 hL9 hF9
  go_wp2_with fail
  go_loopw [10] (fun iv wr => ∃ (i : Nat) (D : List Int) (oo : Option Addr) (oc : Nat), iv = .int .i64 i ∧ i ≤ T.length ∧ Bk wr k9 34 #[.slice oo D.length oc] ∧ Hid (D = (fnd nt T i).map Prod.fst) ∧ wr.ownsRow v9.heap.size 3 1 (.slice oo D.length oc) D.length (D.map fun x => .int .i64 x) ∧ Far (fun k => k = k9) v9 wr) (fun iv _ => T.length - (intOf iv).toNat)
  case atStart => exact ⟨0, [], none, 0, rfl, Nat.zero_le _, hL9'.out, Lib.hid rfl, World.ownsRow_nil _ _ _ _, Far.refl _ _⟩
  case round =>
    obtain ⟨i, D, oo, oc, rfl, hi, hLr, hD, hown, hfw⟩ := hrel
    have hWr := Lib.hid (hW9.out.out hfw (fun k hk e => by have := hk7w.out; have := hk8'.out; have := hk9'.out; omega))
    have hDl : D.length ≤ i := by
      rw [hD.out, List.length_map]
      exact fnd_len nt T i
    have a1 : wr.cell? ⟨h0, 1, none⟩ = some (.slice ao T.length ac) := (hA'.out.far' hWr.out id).cell 1
    by_cases hlt : i < T.length
    · have e1 : decide ((i : Int) < (T.length : Int)) = true := by rw [decide_eq_true_eq]; omega
      have hii : (i : Int) < (T.length : Int) := by omega
      obtain ⟨t, ht⟩ : ∃ t, T[i]? = some t := ⟨T[i], List.getElem?_eq_getElem hlt⟩
      obtain ⟨b, off, c, he, hbl, c0, c1, hbd⟩ := (hP0.out.move hWr.out).prod ht
      simp only [Value.slice.injEq] at he
      obtain ⟨rfl, _, rfl⟩ := he
      have hsu := fnd_succ (nt := nt) ht
      obtain ⟨p0, tv, l⟩ := t
      simp only [] at c0 hsu
      have q0 : wr.cell? ⟨k9, 0, none⟩ = some (.slice oo D.length oc) := hLr.cell 0
      have hLr' := Lib.hid hLr
      have hown' := Lib.hid hown
      have hfw' := Lib.hid hfw
      clear c1 hbd hbl ht hLr hfw hown
      cases hq : p0 == nt with
      | true =>
        have hsu' := Lib.hid (show D ++ [(i : Int)] = (fnd nt T (i + 1)).map Prod.fst by rw [hsu, hq, List.map_append, ← hD.out]; rfl)
        obtain ⟨inf, hinf, hz0, hz1, hz2⟩ := info_parts info_int1
        have A1 := Lib.hid (hown'.out.alloc (.cells #[.int .i64 (i : Int)] 3))
        have A2 := Lib.hid (World.news_of_block (w := wr.alloc (.cells #[.int .i64 (i : Int)] 3)) (cs := #[.int .i64 (i : Int)]) (t := 3) (fr := (0, 0)) (heap_alloc_new wr _))
        have A3 : ∀ u ∈ [Value.int .i64 (i : Int)], u.oneCell' = true := by simp [Value.oneCell']
        have A4 : D.length + 1 ≤ maxLen := by unfold maxLen; omega
        have A5 : (D.length + 1) * 8 ≤ 140737488355328 := by omega
        have A6 : v9.heap.size ≤ (wr.alloc (.cells #[.int .i64 (i : Int)] 3)).heap.size := by have := hfw'.out.size; simp; omega
        have hne9 := Lib.hid (show (Value.slice oo D.length oc).ownBlock ≠ some k9 from fun e => by have := (hown'.out.lt _ e).1; have := y9'.out; omega)
        clear hsu
        go_wp2_with (at_builtin; refine wpList_append_lies _ rfl _ _ 34 rfl v9.heap.size 3 inf _ 1 8 Try.underlying34 hinf hz0 hz1 hz2 rfl (by decide) (.slice oo D.length oc) D.length _ rfl A1.out ⟨wr.heap.size, 0, none⟩ 1 1 _ rfl rfl A2.out A3 (by decide) A4 A5 A6 _ rfl ?_; intro fg fcap w7 ho7 hg7 hat7 hl7; have hB7 := Lib.hid (Bk.grown (hLr'.out.alloc (.cells #[.int .i64 (i : Int)] 3)) hg7 hne9.out); have u0 := hB7.out.cell 0; have u1 := hB7.out.free 0)
        have hR7 : Far (fun k => (Value.slice oo D.length oc).ownBlock = some k) wr w7 := ((Far.refl _ wr).alloc _).grown hg7 fun k _ e => e
        have hW7 := Lib.hid (hfw'.out.trans hR7 fun k hk e => by have := (hown'.out.lt k e).1; omega)
        have hS7 := Lib.hid ((Far.refl (fun k => k = k9) w7).set ⟨k9, 0, none⟩ (.slice (some ⟨fg, 0, none⟩) (D.length + 1) fcap) (fun _ => rfl))
        have ho7' := Lib.hid (row_far ho7 hS7.out fun k hk e => by subst e; have := (ho7.lt _ hk).1; have := y9'.out; omega)
        clear hR7 ho7 hg7 hat7 A1 A2 A3 A4 A5 A6 hq u0 u1 q0 a1 c0
        go_wp2_with fail
        go_roundw
        case rel => exact ⟨i + 1, D ++ [(i : Int)], some ⟨fg, 0, none⟩, fcap, by go_num, by omega, by rw [List.length_append]; exact hB7.out.set 0 _, hsu', by rw [List.length_append, List.map_append]; exact ho7'.out, hW7.out.trans hS7.out fun _ _ h => h⟩
        case measure => simp [intOf]; omega
      | false =>
        have hsu' : Hid (D = (fnd nt T (i + 1)).map Prod.fst) := Lib.hid (by rw [hsu, hq, List.map_append, ← hD.out]; exact (List.append_nil _).symm)
        clear hsu
        go_wp2_with fail
        go_roundw
        case rel => exact ⟨i + 1, D, oo, oc, by go_num, by omega, hLr'.out, hsu', hown'.out, hfw'.out⟩
        case measure => simp [intOf]; omega
    · have e1 : decide ((i : Int) < (T.length : Int)) = false := by rw [decide_eq_false_iff_not]; omega
      have hin : i = T.length := by omega
      subst hin
      have hDL := Lib.hid (show D = L.map Prod.fst by rw [hD.out, hL'.out])
      have hDl2 : D.length = L.length := by rw [hDL.out, List.length_map]
      rw [hDl2] at hLr hown
      have a0 : wr.cell? ⟨h0, 0, none⟩ = some (.int .i64 S) := (hA'.out.far' hWr.out id).cell 0
      have CP := copy_any S (.slice ao T.length ac) T wr (hP0.out.move hWr.out) hs hs2'.out
      have hkk := hk8'.out
      have hkk9 := hk9'.out
      have hNr := Lib.hid (hN9'.out.far' hfw (by omega))
      have hZr := Lib.hid (hZ9'.out.far' hfw (by omega))
      have hLr' := Lib.hid hLr
      have hown' := Lib.hid hown
      clear hkk hkk9 hLr hown hfw hDl2
      go_wp2_with fail
      refine CP.mono ?_
      rintro e w5 ⟨pv', T', rfl, ho5, hm5, hf5⟩
      have hT5 : T'.length = T.length := by have := congrArg List.length hm5; simpa using this
      have HD5 := heads_any S pv' T' nt w5 ho5.prods (by omega) (fun t ht => by obtain ⟨u, hu, e⟩ := pl_mem hm5 ht; rw [← e]; exact hs2'.out u hu)
      rw [hT5, fnd_pl hm5, ← hL'.out] at HD5
      have hf5' := Lib.hid hf5
      clear CP a0 a1 ho5 hm5 hf5
      go_wp2_with fail
      refine HD5.mono ?_
      rintro e w6 ⟨kL, B, qv, U, rfl, hkL, hkB, hbL, hU, hmU, hf6⟩
      have hUl : U.length = L.length := by have := congrArg List.length hmU; simpa using this
      have SQ := heads_seq (10 - 1) (by decide) B kL qv U w6 hbL hU (by omega) (fun u hu => by
        have h1 : pl u ∈ L := hmU ▸ List.mem_map.2 ⟨u, hu, rfl⟩
        rw [hL'.out] at h1
        obtain ⟨i, t, _, _, h2, h3⟩ := fnd_mem nt T T.length _ h1
        rw [show u.2.2 = t.2.2 from h3.symm]
        exact hs2'.out t (List.mem_of_getElem? h2))
      rw [hmU] at SQ
      have hr6 := hf5'.out.then hf6
      have hW6 := Lib.hid (hWr.out.then hr6)
      have hN6 := Lib.hid (hNr.out.far' hr6 id)
      have hZ6 := Lib.hid (hZr.out.far' hr6 id)
      have hL6 := Lib.hid (hLr'.out.far' hr6 id)
      have ho6 := Lib.hid (row_far hown'.out hr6 fun _ _ h => h)
      have hk9w := hLr'.out.lt
      have hf5s := hf5'.out.size
      have h78 : k7 < k8 := by have := hk8'.out; omega
      have h89 : k8 < k9 := by have := hk9'.out; omega
      have hWk := hk7w.out
      have hhW : h2 < W.heap.size := by have := z2'.out; omega
      have hh12 : h1 < h2 := by have := hh2'.out; omega
      have hh01 : h0 < h1 := by have := hh1'.out; omega
      have hk99 : k9 < v9.heap.size := by have := y9'.out; omega
      clear HD5 hbL hU hmU hf6 hr6
      go_wp2_with fail
      refine heads_turn L kL k7 k8 (fun k => k < w6.heap.size ∧ (k = kL ∨ B ≤ k)) rfl SQ (fun k h => h.1) (fun k h e => by rcases e with e | e <;> rcases h.2 with h | h <;> omega) hN6.out hZ6.out ?ex ?assign ?body ?after
      case ex =>
        intro a V hq
        exact wp_exit hq
      case assign =>
        intro l x V K hK
        simp only [hslots, List.setIfInBounds_toArray, List.set_cons_succ, List.set_cons_zero] at hK
        simp only [List.setIfInBounds_toArray, List.set_cons_succ, List.set_cons_zero]
        gi_wp2
        exact hK
      case body =>
        intro l pre x V hI hok
        obtain ⟨hG, hN, hZ⟩ := hI
        obtain ⟨hpx, hbx⟩ := hok
        obtain ⟨x1, x2, lx⟩ := x
        dsimp only at hbx
        obtain ⟨vo, vc, rfl⟩ := Src.form hbx
        have hLj : L[pre.length]? = some (x1, lx) := by
          obtain ⟨r, hr⟩ := hpx
          rw [← hr]
          simp [List.map_append, pl]
        have hlen : pre.length < L.length := (List.getElem?_eq_some_iff.1 hLj).1
        obtain ⟨i, t, hxi, hiT, hti, hbt⟩ := fnd_mem nt T T.length (x1, lx) (hL'.out ▸ List.mem_of_getElem? hLj)
        dsimp only at hxi hbt
        subst hxi
        have hWV := hW6.out.out hG (fun k hk e => by rcases e with rfl | rfl <;> omega)
        obtain ⟨b2, o2, c2, e2, hb2, d0, d1, hbd⟩ := (hP0.out.move hWV).prod hti
        simp only [Value.slice.injEq] at e2
        obtain ⟨rfl, _, rfl⟩ := e2
        obtain ⟨t0, t1, t2⟩ := t
        dsimp only at hbt d1 hbd
        subst hbt
        obtain ⟨tO, tc, rfl⟩ := Src.form hbd
        have SB := sameBody_yes (.slice vo t2.length vc) (.slice tO t2.length tc) t2 V (by have := hs2'.out _ (List.mem_of_getElem? hti); unfold maxLen; dsimp only at this; omega) hbx hbd
        have hoV := row_far ho6.out hG fun k hk e => by have := (ho6.out.lt k hk).1; rcases e with rfl | rfl <;> omega
        obtain ⟨b3, o3, c3, e3, hb3, hcs⟩ := Src.at (Src.own hoV) (by rw [List.length_map, hDL.out, List.length_map]; omega)
        simp only [Value.slice.injEq] at e3
        obtain ⟨rfl, _, rfl⟩ := e3
        have q1 : V.cell? ⟨b3, o3 + pre.length, none⟩ = some (.int .i64 (i : Int)) := hcs _ _ (by rw [List.getElem?_map, hDL.out, List.getElem?_map, hLj]; rfl)
        have cn : V.cell? ⟨k7, 0, none⟩ = some (.int .i64 (pre.length : Int)) := hN.cell 0
        have cl : V.cell? ⟨k9, 0, none⟩ = some (.slice (some ⟨b3, o3, none⟩) L.length oc) := (hL6.out.far' hG (fun e => by rcases e with e | e <;> omega)).cell 0
        have a1 : V.cell? ⟨h0, 1, none⟩ = some (.slice (some ⟨b2, o2, none⟩) T.length ac) := (hA'.out.far' hWV id).cell 1
        have hC2 := Lib.hid (hC'.out.far' hWV id)
        have hge : decide ((pre.length : Int) ≥ (L.length : Int)) = false := by rw [decide_eq_false_iff_not]; omega
        have hge2 : decide ((L.length : Int) ≤ (pre.length : Int)) = false := by rw [decide_eq_false_iff_not]; omega
        have hltp : (pre.length : Int) < (L.length : Int) := by omega
        have hiI : (i : Int) < (T.length : Int) := by omega
        have hii : ((i : Int) != (i : Int)) = false := by simp
        have hpl3 : pre.length ≤ 4398046510976 := by omega
        have hne : ¬ k7 = k8 := by omega
        have hne2 : ¬ k8 = k7 := by omega
        have hne3 : ¬ h1 = k7 := by omega
        have hkb : ∀ k, FH k7 k8 k → ∃ cs t, Bk V k t cs := by
          rintro k (rfl | rfl)
          · exact ⟨_, _, hN⟩
          · exact ⟨_, _, hZ⟩
        have hG' := Lib.hid hG
        have hN' := Lib.hid hN
        have hZ' := Lib.hid hZ
        have hkb' := Lib.hid hkb
        have hlen1 := Lib.hid (show ((pre ++ [(((i : Int), Value.slice vo t2.length vc, t2) : Tr)]).length : Int) = (pre.length : Int) + 1 by simp)
        simp only [hslots, List.setIfInBounds_toArray, List.set_cons_succ, List.set_cons_zero]
        clear hG hN hZ hpx hbx hLj hWV d0 hbd hoV hcs hkb hti hb2 hb3
        by_cases hm : (pre.length : Int) + 1 = m
        · have hm2 : ((pre.length : Int) + 1 == m) = true := by simp [hm]
          clear hm
          gi_wp2_with (refine ⟨trivial, ?_⟩; refine (CallsIn.inRound l (callsIn_wide.2 SB)).mono ?_; rintro e V2 ⟨rfl, hfV⟩; have hN2 := Lib.hid (hN'.out.far' hfV id); have hZ2 := Lib.hid (hZ'.out.far' hfV id); have cn2 : V2.cell? ⟨k7, 0, none⟩ = some (.int .i64 (pre.length : Int)) := hN2.out.cell 0; have fn2 : V2.frozen? ⟨k7, 0, none⟩ = false := hN2.out.free 0; have cz2 : V2.cell? ⟨k8, 0, none⟩ = some (.int .i64 0) := hZ2.out.cell 0; have fz2 : V2.frozen? ⟨k8, 0, none⟩ = false := hZ2.out.free 0; have cm2 : V2.cell? ⟨h1, 0, none⟩ = some (.int .i64 m) := (hC2.out.far' hfV id).cell 0; have hfV' := Lib.hid hfV; clear hfV cn)
          have S1 := Lib.hid ((hfV'.out.mono (G := FH k7 k8) fun _ _ h => h.elim).set ⟨k7, 0, none⟩ (.int .i64 ((pre.length : Int) + 1)) (fun _ => .inl rfl))
          have N1 := Lib.hid (hN2.out.set 0 (.int .i64 ((pre.length : Int) + 1)))
          have Z1 := Lib.hid (hZ2.out.far (p := ⟨k7, 0, none⟩) (fun e => hne2 e) (.int .i64 ((pre.length : Int) + 1)))
          have S2 := Lib.hid (S1.out.set ⟨k8, 0, none⟩ (.int .i64 1) (fun _ => .inr rfl))
          have Z2 := Lib.hid (Z1.out.set 0 (.int .i64 1))
          have N2 := Lib.hid (N1.out.far (p := ⟨k8, 0, none⟩) (fun e => hne e) (.int .i64 1))
          exact ⟨keeps_far S2.out hkb'.out, rfl, hG'.out.trans S2.out fun _ _ h => h, by rw [hlen1.out]; exact N2.out, Z2.out⟩
        · have hm2 : ((pre.length : Int) + 1 == m) = false := by simp [hm]
          clear hm
          gi_wp2_with (refine ⟨trivial, ?_⟩; refine (CallsIn.inRound l (callsIn_wide.2 SB)).mono ?_; rintro e V2 ⟨rfl, hfV⟩; have hN2 := Lib.hid (hN'.out.far' hfV id); have hZ2 := Lib.hid (hZ'.out.far' hfV id); have cn2 : V2.cell? ⟨k7, 0, none⟩ = some (.int .i64 (pre.length : Int)) := hN2.out.cell 0; have fn2 : V2.frozen? ⟨k7, 0, none⟩ = false := hN2.out.free 0; have cm2 : V2.cell? ⟨h1, 0, none⟩ = some (.int .i64 m) := (hC2.out.far' hfV id).cell 0; have hfV' := Lib.hid hfV; clear hfV cn)
          have S1 := Lib.hid ((hfV'.out.mono (G := FH k7 k8) fun _ _ h => h.elim).set ⟨k7, 0, none⟩ (.int .i64 ((pre.length : Int) + 1)) (fun _ => .inl rfl))
          have N1 := Lib.hid (hN2.out.set 0 (.int .i64 ((pre.length : Int) + 1)))
          have Z1 := Lib.hid (hZ2.out.far (p := ⟨k7, 0, none⟩) (fun e => hne2 e) (.int .i64 ((pre.length : Int) + 1)))
          exact ⟨keeps_far S1.out hkb'.out, S1.out, hG'.out.trans S1.out fun _ _ h => h, by rw [hlen1.out]; exact N1.out, Z1.out⟩
      case after =>
        intro Dk j n V hDk hG hN hZ hK hcond
        have hWV := hW6.out.out hG (fun k hk e => by rcases e with rfl | rfl <;> omega)
        have hR2 := Lib.hid (hR'.out.far' hWV id)
        have hL2 := Lib.hid (hL6.out.far' hG (fun e => by rcases e with e | e <;> omega))
        have hN2 := Lib.hid hN
        have hZ2 := Lib.hid hZ
        have hWV' := Lib.hid hWV
        have hK' := Lib.hid hK
        have hw6 := hW6.out.size
        have hDh : Dk ≠ h2 := by omega
        have hhw := Lib.hid (show w.heap.size ≤ h2 by have := hh0'.out; have := hh1'.out; have := hh2'.out; omega)
        clear hG hN hZ hK hWV
        go_wp2_with fail
        refine (head12_any _).mono ?_
        rintro e V2 ⟨rfl, hfV⟩
        have hR3 := Lib.hid (hR2.out.far' hfV id)
        have cr : V2.cell? ⟨h2, 0, none⟩ = some (.bool false) := hR3.out.cell 0
        have fr : V2.frozen? ⟨h2, 0, none⟩ = false := hR3.out.free 0
        have cl : V2.cell? ⟨k9, 0, none⟩ = some (.slice oo L.length oc) := (hL2.out.far' hfV id).cell 0
        have cn : V2.cell? ⟨k7, 0, none⟩ = some (.int .i64 (j : Int)) := (hN2.out.far' hfV id).cell 0
        have cz : V2.cell? ⟨k8, 0, none⟩ = some (.int .i64 (n : Int)) := (hZ2.out.far' hfV id).cell 0
        have hK2 : V2.heap[Dk]? = some (.deferred (some [])) := (hfV.block Dk (Array.getElem?_eq_some_iff.1 hK'.out).1 id).trans hK'.out
        have U1 := Lib.hid ((heap_setCell_other V2 ⟨h2, 0, none⟩ Dk (.bool true) hDh).trans hK2)
        have R1 : Bk ((V2.setCell ⟨h2, 0, none⟩ (.bool true)).putObj Dk (.deferred none)) h2 4 #[.bool true] := (World.putObj_heap_other (fun e => hDh e.symm)).trans (hR3.out.set 0 (.bool true))
        have HH := Lib.hid (R1.cell 0)
        have FB := Lib.hid ((hF'.out.then (hWV'.out.then hfV)).trans ((((Far.refl (fun k => k = h2) V2).set ⟨h2, 0, none⟩ (.bool true) (fun _ => rfl)).mono (G := fun k => h2 ≤ k) fun k _ hk => by subst hk; exact Nat.le_refl _).grown (grownBy_putObj' _ Dk (.deferred none)) (fun k hk e => by cases e; omega)) fun i hi hk => by have := hhw.out; omega)
        clear hfV hK2 R1
        rcases hcond with ⟨rfl, rfl⟩ | rfl
        · rw [show ((0 : Nat) : Int) = 0 from rfl] at cz
          have g0 : ((0 : Int) == 1) = false := rfl
          have g1 : ((L.length : Int) == (L.length : Int)) = true := by simp
          go_wp2_with fail
          refine ⟨by simp, .inl ⟨Dk, _, rfl, run_takeDeferred U1.out, ?_⟩⟩
          refine ⟨.bool true, ?_, rfl, FB.out⟩
          have hc := HH.out
          simp [results, Try.f5, go_sem, hc]
        · rw [show ((1 : Nat) : Int) = 1 from rfl] at cz
          have g0 : ((1 : Int) == 1) = true := rfl
          go_wp2_with fail
          refine ⟨by simp, .inl ⟨Dk, _, rfl, run_takeDeferred U1.out, ?_⟩⟩
          refine ⟨.bool true, ?_, rfl, FB.out⟩
          have hc := HH.out
          simp [results, Try.f5, go_sem, hc]
end
end Go.Proofs.Ytfgoghmhjbhbiaa
