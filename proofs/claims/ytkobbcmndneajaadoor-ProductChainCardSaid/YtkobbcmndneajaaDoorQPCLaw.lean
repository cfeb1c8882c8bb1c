/-
  ProductChain walked.
-/
import Derived.Test.YtkobbcmndneajaaDoorQPChR
import Derived.Test.YtkobbcmndneajaaDoorQGridsArg
import Derived.Test.YtkobbcmndneajaaDoorQRefO
import Derived.Test.YtkobbcmndneajaaDoorQMd03
import Derived.Test.YtkobbcmndneajaaDoorQPAwake
import Derived.Deep.RegionHeld3
import Derived.Deep.AppendLies
namespace Go.Proofs.YtkobbcmndneajaaDoor
open Go.RowKit Go.Shelf
set_option linter.unusedVariables false
set_option linter.unusedSimpArgs false
/-- A matrix's list lies in another block. -/
def Away (v : Value) (g : Nat) : Prop := ∀ s ao n cap, v = .agg #[s, .slice ao n cap] → 0 < n → ∀ a, ao = some a → a.block ≠ g
theorem Dm.away {w w' : World} {v : Value} {s : Nat} {F : Nat → Prop} {M : Nat → Nat → Bool} (h : Dm w v s M) (hf : Far F w w') (hF : ∀ g, F g → Away v g) : Dm w' v s M := by
  obtain ⟨ao, cap, e, hq, r⟩ := h
  refine ⟨ao, cap, e, fun hn => ?_, r⟩
  obtain ⟨g, off, rfl, hg, hc⟩ := hq hn
  have hgk : ¬ F g := fun hk => hF g hk _ _ _ _ e hn _ rfl rfl
  have hbl := hf.block g hg hgk
  exact ⟨g, off, rfl, Nat.lt_of_lt_of_le hg hf.size, fun q hq => ⟨(cell_eq (p := ⟨g, off + q * 2, Option.none⟩) hbl).trans (hc q hq).1, (cell_eq (p := ⟨g, off + q * 2 + 1, Option.none⟩) hbl).trans (hc q hq).2⟩⟩
def docV (S : Nat → Nat) (M : Nat → Nat → Nat → Bool) (av : Nat → Option Addr) (cv : Nat → Nat) (i : Nat) : Value := .agg #[.int .i64 (S i : Nat), .slice (av i) (cellsL (M i) (S i)).length (cv i)]
def docC (S : Nat → Nat) (M : Nat → Nat → Nat → Bool) (av : Nat → Option Addr) (cv : Nat → Nat) (i : Nat) : List Value := [.int .i64 (S i : Nat), .slice (av i) (cellsL (M i) (S i)).length (cv i)]
theorem ptrInfo : (Tryd.prog.info? 24).map (fun i => (i.zero, i.size, i.bytes)) = some (some (.pointer Option.none), 1, 8) := by kernel_rfl
theorem matInfo : (Tryd.prog.info? 28).map (fun i => (i.zero, i.size, i.bytes)) = some (some (.agg #[.int .i64 0, .slice Option.none 0 0]), 2, 32) := by kernel_rfl
/-- Both lists of matrices, so far. -/
structure CLs (W : World) (S : Nat → Nat) (M : Nat → Nat → Nat → Bool) (k : Nat) (vs : Nat → Value) (Fs : Nat → Nat → Prop) (av : Nat → Option Addr) (cv : Nat → Nat) (mv wv : Value) (X : World) : Prop where
  own1 : X.ownsRow W.heap.size 24 1 mv k ((List.range k).map vs)
  own2 : X.ownsRow W.heap.size 28 2 wv k ((List.range k).flatMap (docC S M av cv))
  has : ∀ i, i < k → HasF X (vs i) (Fs i) (S i) (M i)
  doc : ∀ i, i < k → Dm X (docV S M av cv i) (S i) (M i)
  away : ∀ i, i < k → ∀ g, (mv.ownBlock = some g ∨ wv.ownBlock = some g) → Away (docV S M av cv i) g
  far : Far (fun _ => False) W X
theorem CLs.none (W : World) (S : Nat → Nat) (M : Nat → Nat → Nat → Bool) : CLs W S M 0 (fun _ => undef) (fun _ _ => False) (fun _ => Option.none) (fun _ => 0) (.slice Option.none 0 0) (.slice Option.none 0 0) W :=
  ⟨World.ownsRow_nil _ _ _ _, World.ownsRow_nil _ _ _ _, fun i h => absurd h (Nat.not_lt_zero _), fun i h => absurd h (Nat.not_lt_zero _), fun i h => absurd h (Nat.not_lt_zero _), Far.refl _ _⟩
theorem range_map_if {vs : Nat → Value} {v : Value} (k : Nat) : (List.range (k + 1)).map (fun i => if i = k then v else vs i) = (List.range k).map vs ++ [v] := by
  rw [List.range_succ, List.map_append]
  congr 1
  · refine List.map_congr_left fun i hi => ?_
    rw [if_neg (Nat.ne_of_lt (List.mem_range.1 hi))]
  · simp
theorem range_flat_if {f g : Nat → List Value} {l : List Value} (k : Nat) (h1 : ∀ i, i < k → g i = f i) (h2 : g k = l) : (List.range (k + 1)).flatMap g = (List.range k).flatMap f ++ l := by
  rw [List.range_succ, List.flatMap_append]
  congr 1
  · rw [List.flatMap_def, List.flatMap_def]
    congr 1
    exact List.map_congr_left fun i hi => h1 i (List.mem_range.1 hi)
  · simp [h2]
theorem CLs.next {W X X2 X3 : World} {S : Nat → Nat} {M : Nat → Nat → Nat → Bool} {k : Nat} {vs : Nat → Value} {Fs : Nat → Nat → Prop} {av : Nat → Option Addr} {cv : Nat → Nat} {mv wv mv' wv' v : Value} {F : Nat → Prop} {a : Option Addr} {c : Nat} (h : CLs W S M k vs Fs av cv mv wv X) (hf : Far (fun _ => False) X X2)
    (hv : HasF X2 v F (S k) (M k)) (hd : Dm X2 (.agg #[.int .i64 (S k : Nat), .slice a (cellsL (M k) (S k)).length c]) (S k) (M k)) (hdn : Dn (.agg #[.int .i64 (S k : Nat), .slice a (cellsL (M k) (S k)).length c]) X.heap.size)
    (hf3 : Far (fun q => mv.ownBlock = some q ∨ wv.ownBlock = some q) X2 X3)
    (ho1 : X3.ownsRow W.heap.size 24 1 mv' (k + 1) ((List.range k).map vs ++ [v]))
    (ho2 : X3.ownsRow W.heap.size 28 2 wv' (k + 1) ((List.range k).flatMap (docC S M av cv) ++ [.int .i64 (S k : Nat), .slice a (cellsL (M k) (S k)).length c]))
    (hn1 : ∀ g, mv'.ownBlock = some g → mv.ownBlock = some g ∨ X2.heap.size ≤ g) (hn2 : ∀ g, wv'.ownBlock = some g → wv.ownBlock = some g ∨ X2.heap.size ≤ g) :
    ∃ vs' Fs' av' cv', CLs W S M (k + 1) vs' Fs' av' cv' mv' wv' X3 := by
  have o1 := row_same h.own1 fun q _ hl => hf.block q hl id
  have o2 := row_same h.own2 fun q _ hl => hf.block q hl id
  have hold : ∀ g, (mv.ownBlock = some g ∨ wv.ownBlock = some g) → W.heap.size ≤ g ∧ g < X.heap.size := fun g hg => by
    rcases hg with e | e
    · obtain ⟨h1, h2, _⟩ := own_type h.own1 e; exact ⟨h1, h2⟩
    · obtain ⟨h1, h2, _⟩ := own_type h.own2 e; exact ⟨h1, h2⟩
  have hnot : ∀ {v : Value} {F : Nat → Prop} {s : Nat} {M : Nat → Nat → Bool}, HasF X2 v F s M → ∀ q, F q → ¬ (mv.ownBlock = some q ∨ wv.ownBlock = some q) := fun hx q hq e => by
    rcases e with e | e
    · obtain ⟨_, _, cs, hb⟩ := own_type o1 e
      exact hx.notBk hb (by decide) (by decide) (by decide) hq
    · obtain ⟨_, _, cs, hb⟩ := own_type o2 e
      exact hx.notBk hb (by decide) (by decide) (by decide) hq
  have hpl := hd.place hdn
  have hsz := hf.size
  have haw : ∀ g, (mv.ownBlock = some g ∨ wv.ownBlock = some g) → Away (.agg #[.int .i64 (S k : Nat), .slice a (cellsL (M k) (S k)).length c]) g := fun g hg s ao n cap e h0 x hx e9 => by
    have h1 := (hpl s ao n cap e h0 x hx).1
    have h2 := (hold g hg).2
    omega
  refine ⟨fun i => if i = k then v else vs i, fun i => if i = k then F else Fs i, fun i => if i = k then a else av i, fun i => if i = k then c else cv i, ?_, ?_, fun i hi => ?_, fun i hi => ?_, fun i hi g hg => ?_, ?_⟩
  · rw [range_map_if]; exact ho1
  · rw [range_flat_if k (f := docC S M av cv) (l := [.int .i64 (S k : Nat), .slice a (cellsL (M k) (S k)).length c]) (fun i hi => by unfold docC; dsimp only; rw [if_neg (Nat.ne_of_lt hi), if_neg (Nat.ne_of_lt hi)]) (by unfold docC; dsimp only; rw [if_pos rfl, if_pos rfl])]
    exact ho2
  · by_cases e : i = k
    · subst e
      simp only [if_true]
      exact hv.kept hf3 fun q hq => hnot hv q hq
    · simp only [if_neg e]
      have hx := (h.has i (by omega)).still hf
      exact hx.kept hf3 fun q hq => hnot hx q hq
  · unfold docV
    by_cases e : i = k
    · subst e
      simp only [if_true]
      exact hd.away hf3 haw
    · simp only [if_neg e]
      exact ((h.doc i (by omega)).move hf).away hf3 fun g hg => h.away i (by omega) g hg
  · unfold docV
    by_cases e : i = k
    · subst e
      simp only [if_true]
      intro s ao n cap e h0 x hx e9
      have h1 := hpl s ao n cap e h0 x hx
      rcases hg with hg | hg
      · rcases hn1 g hg with h | h
        · have := (hold g (.inl h)).2; omega
        · omega
      · rcases hn2 g hg with h | h
        · have := (hold g (.inr h)).2; omega
        · omega
    · simp only [if_neg e]
      intro s ao n cap e9 h0 x hx e8
      have hlt : x.block < X.heap.size := by
        obtain ⟨ao', cap', e', hp, _⟩ := h.doc i (by omega)
        unfold docV at e'
        rw [e9] at e'
        cases e'
        obtain ⟨g', off, e2, hg', _⟩ := hp h0
        rw [hx] at e2
        cases e2
        exact hg'
      rcases hg with hg | hg
      · rcases hn1 g hg with h' | h'
        · exact h.away i (by omega) g (.inl h') s ao n cap e9 h0 x hx e8
        · omega
      · rcases hn2 g hg with h' | h'
        · exact h.away i (by omega) g (.inr h') s ao n cap e9 h0 x hx e8
        · omega
  · exact (h.far.then hf).trans hf3 fun q hq e => by have := (hold q e).1; omega
theorem CLs.still {W X Y : World} {S : Nat → Nat} {M : Nat → Nat → Nat → Bool} {k : Nat} {vs : Nat → Value} {Fs : Nat → Nat → Prop} {av : Nat → Option Addr} {cv : Nat → Nat} {mv wv : Value} (h : CLs W S M k vs Fs av cv mv wv X) (hf : Far (fun _ => False) X Y) : CLs W S M k vs Fs av cv mv wv Y :=
  ⟨row_same h.own1 fun q _ hl => hf.block q hl id, row_same h.own2 fun q _ hl => hf.block q hl id, fun i hi => (h.has i hi).still hf, fun i hi => (h.doc i hi).move hf, h.away, h.far.then hf⟩
theorem CLs.cells1 {W X : World} {S : Nat → Nat} {M : Nat → Nat → Nat → Bool} {n mc : Nat} {vs : Nat → Value} {Fs : Nat → Nat → Prop} {av : Nat → Option Addr} {cv : Nat → Nat} {mo : Option Addr} {wv : Value} (h : CLs W S M n vs Fs av cv (.slice mo n mc) wv X) : n ≤ mc ∧ (0 < n → ∃ g, mo = some ⟨g, 0, Option.none⟩ ∧ g < X.heap.size ∧ ∀ i, i < n → X.cell? ⟨g, i, Option.none⟩ = some (vs i)) := by
  have ho := h.own1
  rcases ho.2 with ⟨e1, e2⟩ | ⟨g, c2, cur, e1, _, hg, h5, _⟩
  · cases e1; exact ⟨by omega, fun h0 => by omega⟩
  · cases e1
    refine ⟨h5, fun h0 => ⟨g, rfl, (Array.getElem?_eq_some_iff.1 hg).1, fun i hi => ?_⟩⟩
    rw [ho.cellAt i (by omega)]
    simp [hi]
theorem CLs.cells2 {W X : World} {S : Nat → Nat} {M : Nat → Nat → Nat → Bool} {n wc : Nat} {vs : Nat → Value} {Fs : Nat → Nat → Prop} {av : Nat → Option Addr} {cv : Nat → Nat} {wo : Option Addr} {mv : Value} (h : CLs W S M n vs Fs av cv mv (.slice wo n wc) X) : 0 < n → ∃ g, wo = some ⟨g, 0, Option.none⟩ ∧ g < X.heap.size ∧ ∀ i, i < n → X.cell? ⟨g, i * 2, Option.none⟩ = some (.int .i64 (S i : Nat)) ∧ X.cell? ⟨g, i * 2 + 1, Option.none⟩ = some (.slice (av i) (cellsL (M i) (S i)).length (cv i)) := by
  have ho := h.own2
  rcases ho.2 with ⟨e1, e2⟩ | ⟨g, c2, cur, e1, _, hg, h5, _⟩
  · exact fun h0 => by omega
  · cases e1
    refine fun h0 => ⟨g, rfl, (Array.getElem?_eq_some_iff.1 hg).1, fun i hi => ?_⟩
    have hr : ((List.range n).map (docC S M av cv))[i]? = some (docC S M av cv i) := by simp [hi]
    have hev : Even 2 ((List.range n).map (docC S M av cv)) := fun x hx => by
      obtain ⟨j, _, rfl⟩ := List.mem_map.1 hx
      rfl
    have f0 := flat_get hev hr (r := 0) (by omega)
    have f1 := flat_get hev hr (r := 1) (by omega)
    rw [Nat.add_zero] at f0
    rw [← List.flatMap_def] at f0 f1
    exact ⟨by rw [ho.cellAt (i * 2) (by omega), f0]; rfl, by rw [ho.cellAt (i * 2 + 1) (by omega), f1]; rfl⟩
section
set_option maxHeartbeats 8000000
set_option maxRecDepth 100000
theorem rfew_zero (w : World) (ao : Option Addr) (cap : Nat) : Calls Tryd.prog 24 #[.slice ao 0 cap] w fun e w' => e = .returned (.bool true) ∧ w = w' := by
  go_enter Tryd.func24, Tryd.ntmps24
  go_wp2_with fail
  go_loopw [3] (fun kv wr => kv = .int .i64 0 ∧ w = wr) (fun kv _ => 0)
  case atStart => exact ⟨rfl, rfl⟩
  case round =>
    obtain ⟨rfl, rfl⟩ := hrel
    go_wp2_with fail
    go_ret
    exact ⟨rfl, rfl⟩
theorem pchain_law (W : World) (ao : Option Addr) (n cap : Nat) (s : Nat → Int) (a : Nat → Option Addr) (m c : Nat → Nat) (R C : Nat → Nat → Int) (hcap : n ≤ cap) (hn2 : n ≤ 9223372036854775807) (hG : Grids W ao n s a m c R C) (hT : Tab W) :
    Calls Tryd.prog 5 #[.slice ao n cap] W fun e w' => e = .returned (.bool true) ∧ Far (fun _ => False) W w' := by
  by_cases h6 : 6 < n
  · have h6i : (6 : Int) < (n : Int) := by omega
    have AW := awake03_any W hT
    clear h6 hG hT
    go_enter Tryd.func5, Tryd.ntmps5
    go_wp2_with fail
    refine AW.mono ?_
    rintro e wz ⟨rfl, hfz⟩
    have hfz' := Lib.hid hfz
    clear AW hfz
    go_wp2_with fail
    go_ret
    exact ⟨rfl, hfz'.out⟩
  · have h6i : ¬ (6 : Int) < (n : Int) := by omega
    have hn6 : n ≤ 6 := by omega
    have FW : ∃ bf : Bool, Calls Tryd.prog 24 #[.slice ao n cap] W fun e w' => e = .returned (.bool bf) ∧ W = w' := by
      by_cases h0 : n = 0
      · subst h0
        exact ⟨true, rfew_zero W ao cap⟩
      · obtain ⟨g, off, rfl, hg, hc⟩ := hG (by omega)
        exact ⟨_, rfew_any W g off n cap (by omega) (fun _ => undef) a m c (fun k hk => (hc k hk).2.1)⟩
    obtain ⟨bf, FW⟩ := FW
    have kT := Lib.hid hT
    have kG := Lib.hid hG
    clear h6 hG hT
    cases bf with
    | false =>
      have AW := awake03_any W kT.out
      go_enter Tryd.func5, Tryd.ntmps5
      go_wp2_with fail
      refine FW.mono ?_
      rintro e w1 ⟨rfl, rfl⟩
      clear FW
      go_wp2_with fail
      refine AW.mono ?_
      rintro e wz ⟨rfl, hfz⟩
      have hfz' := Lib.hid hfz
      clear AW hfz
      go_wp2_with fail
      go_ret
      exact ⟨rfl, hfz'.out⟩
    | true =>
      obtain ⟨S, hS⟩ : ∃ S : Nat → Nat, ∀ k, ofS (s k) (m k) (R k) (C k) = S k := ⟨_, fun _ => rfl⟩
      obtain ⟨M, hM⟩ : ∃ M : Nat → Nat → Nat → Bool, ∀ k, ofM (s k) (m k) (R k) (C k) = M k := ⟨_, fun _ => rfl⟩
      have hS' := Lib.hid hS
      have hM' := Lib.hid hM
      clear hS hM
      go_enter Tryd.func5, Tryd.ntmps5
      go_wp2_with fail
      refine FW.mono ?_
      rintro e w1 ⟨rfl, rfl⟩
      clear FW
      go_wp2_with fail
      go_loopw [3, 4, 5] (fun mv wv iv wr => ∃ (k : Nat) (vs : Nat → Value) (Fs : Nat → Nat → Prop) (av : Nat → Option Addr) (cv : Nat → Nat), k ≤ n ∧ iv = .int .i64 (k : Nat) ∧ CLs W S M k vs Fs av cv mv wv wr) (fun _ _ iv _ => n - (intOf iv).toNat)
      case atStart => exact ⟨0, _, _, _, _, Nat.zero_le _, rfl, CLs.none W S M⟩
      case round =>
        obtain ⟨k, vs, Fs, av, cv, hk, rfl, hL⟩ := hrel
        obtain ⟨wd, hwd⟩ : ∃ wd, wd = wr := ⟨_, rfl⟩
        rw [← hwd] at hL ⊢
        clear hwd
        obtain ⟨mo, mc, rfl⟩ := q_form hL.own1
        obtain ⟨wo, wc, rfl⟩ := q_form hL.own2
        by_cases hlt : k < n
        · have hki : (k : Int) < (n : Int) := by omega
          have hkb : (k : Int) + 1 ≤ 9223372036854775807 := by omega
          obtain ⟨g, off, rfl, hg, hc⟩ := (kG.out.move hL.far) (by omega)
          obtain ⟨c0, c1, l1, l2, hcl⟩ := hc k hlt
          have MD := made03_any (s k) (a k) (m k) (c k) (R k) (C k) l1 l2 wd hcl
          rw [hS'.out k, hM'.out k] at MD
          obtain ⟨sk, hsk⟩ : ∃ x, s k = x := ⟨_, rfl⟩
          obtain ⟨ak, hak⟩ : ∃ x, a k = x := ⟨_, rfl⟩
          obtain ⟨mk, hmk⟩ : ∃ x, m k = x := ⟨_, rfl⟩
          obtain ⟨ck, hck⟩ : ∃ x, c k = x := ⟨_, rfl⟩
          rw [hsk] at c0
          rw [hak, hmk, hck] at c1
          rw [hsk, hak, hmk, hck] at MD
          have hL' := Lib.hid hL
          clear hL hc hcl l1 l2 hsk hak hmk hck
          go_wp2_with fail
          refine MD.mono ?_
          rintro e w1 ⟨v, d, rfl, F, hX, hD, hDn, _, hf1⟩
          obtain ⟨pv, rfl⟩ := hX.ptr
          have hDk := hD
          obtain ⟨ad, cd, rfl, _⟩ := hD
          obtain ⟨Sk, hSk⟩ : ∃ x, S k = x := ⟨_, rfl⟩
          obtain ⟨mm, hmm⟩ : ∃ x, (cellsL (M k) Sk).length = x := ⟨_, rfl⟩
          obtain ⟨h7, hh7⟩ : ∃ h, h = w1.heap.size := ⟨_, rfl⟩
          rw [hSk] at hDk hDn ⊢
          rw [hmm] at hDk hDn ⊢
          obtain ⟨X2, hX2⟩ : ∃ V, V = w1.alloc (.cells #[.int .i64 (Sk : Nat), .slice ad mm cd] 28) := ⟨_, rfl⟩
          have hf2 : Far (fun _ => False) w1 X2 := hX2 ▸ (Far.refl _ w1).alloc _
          have hB7 : Bk X2 h7 28 #[.int .i64 (Sk : Nat), .slice ad mm cd] := hX2 ▸ Bk.new hh7
          have x0 : X2.cell? ⟨h7, 0, none⟩ = some (.int .i64 (Sk : Nat)) := hB7.cell 0
          have x1 : X2.cell? ⟨h7, 1, none⟩ = some (.slice ad mm cd) := hB7.cell 1
          have hX' := Lib.hid (hX.still hf2)
          have hD' := Lib.hid (hDk.move hf2)
          have hDn' := Lib.hid hDn
          have hfX := Lib.hid (hf1.then hf2)
          have hB7' := Lib.hid hB7
          have hX2' := Lib.hid hX2
          have hh7' := Lib.hid hh7
          have hfX7 := Lib.hid hf1.size
          have hSk' := Lib.hid hSk
          have hmm' := Lib.hid hmm
          clear MD hX hDk hDn hf1 hf2 hB7 hX2 hh7 hSk hmm c0 c1
          obtain ⟨pi, hpi, pz0, pz1, pz2⟩ := info_parts ptrInfo
          obtain ⟨di, hdi, dz0, dz1, dz2⟩ := info_parts matInfo
          have r1 := Lib.hid (row_same hL'.out.own1 fun q _ hl => hfX.out.block q hl id)
          have r2 := Lib.hid (row_same hL'.out.own2 fun q _ hl => hfX.out.block q hl id)
          have h12 : ∀ q, (Value.slice mo k mc).ownBlock = some q → (Value.slice wo k wc).ownBlock ≠ some q := fun q e1 e2 => by
            obtain ⟨_, _, cs, hb⟩ := own_type r1.out e1
            obtain ⟨_, _, cs2, hb2⟩ := own_type r2.out e2
            have := bk_type hb hb2
            revert this; decide
          have hn7 : ¬ ((Value.slice mo k mc).ownBlock = some h7 ∨ (Value.slice wo k wc).ownBlock = some h7) := fun e => by
            rcases e with e | e
            · obtain ⟨_, h1, _⟩ := own_type hL'.out.own1 e; have := hh7'.out; have := hfX7.out; omega
            · obtain ⟨_, h1, _⟩ := own_type hL'.out.own2 e; have := hh7'.out; have := hfX7.out; omega
          have HS := Lib.hid (show ∀ V, Far (fun q => (Value.slice mo k mc).ownBlock = some q ∨ (Value.slice wo k wc).ownBlock = some q) X2 V → V.cell? ⟨h7, 0, none⟩ = some (.int .i64 (Sk : Nat)) ∧ V.cell? ⟨h7, 1, none⟩ = some (.slice ad mm cd) from fun V hV => ⟨(hB7'.out.far' hV hn7).cell 0, (hB7'.out.far' hV hn7).cell 1⟩)
          have h12' := Lib.hid h12
          have fx := Lib.hid (Far.refl (fun q => (Value.slice mo k mc).ownBlock = some q ∨ (Value.slice wo k wc).ownBlock = some q) X2).drew
          have fA1 := Lib.hid (fx.out.alloc (.cells #[.pointer pv] 24))
          have fB1 := Lib.hid (fx.out.alloc (.cells #[.int .i64 (Sk : Nat), .slice ad mm cd] 28))
          have fA2 := Lib.hid (fA1.out.alloc (.cells #[.int .i64 (Sk : Nat), .slice ad mm cd] 28))
          have fA3 := Lib.hid (fB1.out.alloc (.cells #[.pointer pv] 24))
          have g1 := Lib.hid (show World.ownsRow X2.drew _ _ _ _ _ _ from r1.out)
          have g2 := Lib.hid (show World.ownsRow X2.drew _ _ _ _ _ _ from r2.out)
          have o1A1 := Lib.hid (World.ownsRow.alloc g1.out (.cells #[.pointer pv] 24))
          have o1B1 := Lib.hid (World.ownsRow.alloc g1.out (.cells #[.int .i64 (Sk : Nat), .slice ad mm cd] 28))
          have o1A2 := Lib.hid (World.ownsRow.alloc o1A1.out (.cells #[.int .i64 (Sk : Nat), .slice ad mm cd] 28))
          have o1A3 := Lib.hid (World.ownsRow.alloc o1B1.out (.cells #[.pointer pv] 24))
          have o2A1 := Lib.hid (World.ownsRow.alloc g2.out (.cells #[.pointer pv] 24))
          have o2B1 := Lib.hid (World.ownsRow.alloc g2.out (.cells #[.int .i64 (Sk : Nat), .slice ad mm cd] 28))
          have o2A2 := Lib.hid (World.ownsRow.alloc o2A1.out (.cells #[.int .i64 (Sk : Nat), .slice ad mm cd] 28))
          have o2A3 := Lib.hid (World.ownsRow.alloc o2B1.out (.cells #[.pointer pv] 24))
          have pA1 := Lib.hid (show Bk (X2.drew.alloc (.cells #[.pointer pv] 24)) X2.heap.size 24 #[.pointer pv] from Bk.new (w := X2.drew) rfl)
          have pA2 := Lib.hid (pA1.out.alloc (.cells #[.int .i64 (Sk : Nat), .slice ad mm cd] 28))
          have pA3 := Lib.hid (show Bk ((X2.drew.alloc (.cells #[.int .i64 (Sk : Nat), .slice ad mm cd] 28)).alloc (.cells #[.pointer pv] 24)) (X2.heap.size + 1) 24 #[.pointer pv] from Bk.new (w := (X2.drew.alloc (.cells #[.int .i64 (Sk : Nat), .slice ad mm cd] 28))) (by simp))
          have qB1 := Lib.hid (show Bk (X2.drew.alloc (.cells #[.int .i64 (Sk : Nat), .slice ad mm cd] 28)) X2.heap.size 28 #[.int .i64 (Sk : Nat), .slice ad mm cd] from Bk.new (w := X2.drew) rfl)
          have qA3 := Lib.hid (qB1.out.alloc (.cells #[.pointer pv] 24))
          have qA2 := Lib.hid (show Bk ((X2.drew.alloc (.cells #[.pointer pv] 24)).alloc (.cells #[.int .i64 (Sk : Nat), .slice ad mm cd] 28)) (X2.heap.size + 1) 28 #[.int .i64 (Sk : Nat), .slice ad mm cd] from Bk.new (w := (X2.drew.alloc (.cells #[.pointer pv] 24))) (by simp))
          have C3 := Lib.hid (show ∀ u ∈ [(.pointer pv : Value)], u.oneCell' = true by simp [Value.oneCell'])
          have D3 := Lib.hid (show ∀ u ∈ [(.int .i64 (Sk : Nat) : Value), .slice ad mm cd], u.oneCell' = true by simp [Value.oneCell'])
          have C4 : k + 1 ≤ maxLen := by unfold maxLen; omega
          have C5 : (k + 1) * 8 ≤ 140737488355328 := by omega
          have D5 : (k + 1) * 32 ≤ 140737488355328 := by omega
          have hWX := Lib.hid (show W.heap.size ≤ X2.heap.size from (hL'.out.far.then hfX.out).size)
          clear g1 g2
          go_upto_region 9 with fail
          rw [← hh7'.out, ← hX2'.out]
          go_region_held3 (fun V => V.cell? ⟨h7, 0, none⟩ = some (.int .i64 (Sk : Nat)) ∧ V.cell? ⟨h7, 1, none⟩ = some (.slice ad mm cd)) (first | exact HS.out _ fF.out | exact HS.out _ f3D.out | exact HS.out _ f7P.out | exact HS.out _ f3.out | exact HS.out _ f7.out | exact HS.out _ fA2.out | exact HS.out _ fA3.out | exact HS.out _ fA1.out | exact HS.out _ fB1.out | exact HS.out _ fx.out)
            (first
              | (refine step_append_lies _ rfl (.tmp 37) (.tmp 39) 59 rfl W.heap.size 24 pi _ 1 8 Tryd.underlying59 hpi pz0 pz1 pz2 rfl (by decide) (.slice mo k mc) k _ rfl u1.out ⟨_, 0, none⟩ 1 1 [.pointer pv] rfl rfl (World.news_of_block y1.out) C3.out (by decide) C4 C5 (Nat.le_trans hWX.out f7.out.size) _ rfl ?_; intro g3 c3 w3 ho3 hg3 hw3 hl3; have ff := (f7.out.trans (grown_F hg3) fun q hq e => .inl e); have n1 := Lib.hid (show (Value.slice mo k mc).ownBlock = some g3 ∨ X2.heap.size ≤ g3 from hw3.imp id fun h => by rw [h]; exact f7.out.size); have fF := Lib.hid ff; have R1 := Lib.hid ho3; have R2 := Lib.hid (row_same t2.out fun q hq hl => (grown_F hg3).block q hl fun e => by { obtain ⟨_, _, cs, hb⟩ := own_type t2.out hq; obtain ⟨_, h9, cs2, hb2⟩ := own_type r1.out e; rcases n2.out with h | h; exact h12'.out q e (by { have e2 : g7 = q := Option.some.inj hq; rw [← e2]; exact h }); have e2 : g7 = q := Option.some.inj hq; omega }); clear ho3 hg3 hw3 hl3 ff)
              | (refine step_append_lies _ rfl (.tmp 37) (.tmp 39) 59 rfl W.heap.size 24 pi _ 1 8 Tryd.underlying59 hpi pz0 pz1 pz2 rfl (by decide) (.slice mo k mc) k _ rfl u1P.out ⟨_, 0, none⟩ 1 1 [.pointer pv] rfl rfl (World.news_of_block y1P.out) C3.out (by decide) C4 C5 (Nat.le_trans hWX.out f7P.out.size) _ rfl ?_; intro g3 c3 w3 ho3 hg3 hw3 hl3; have ff := (f7P.out.trans (grown_F hg3) fun q hq e => .inl e); have n1 := Lib.hid (show (Value.slice mo k mc).ownBlock = some g3 ∨ X2.heap.size ≤ g3 from hw3.imp id fun h => by rw [h]; exact f7P.out.size); have fF := Lib.hid ff; have R1 := Lib.hid ho3; have R2 := Lib.hid (row_same t2P.out fun q hq hl => (grown_F hg3).block q hl fun e => by { obtain ⟨_, _, cs, hb⟩ := own_type t2P.out hq; obtain ⟨_, h9, cs2, hb2⟩ := own_type r1.out e; rcases n2.out with h | h; exact h12'.out q e (by { have e2 : g7 = q := Option.some.inj hq; rw [← e2]; exact h }); have e2 : g7 = q := Option.some.inj hq; omega }); clear ho3 hg3 hw3 hl3 ff)
              | (refine step_append_lies _ rfl (.tmp 41) (.tmp 43) 60 rfl W.heap.size 28 di _ 2 32 Tryd.underlying60 hdi dz0 dz1 dz2 rfl (by decide) (.slice wo k wc) k _ rfl u2.out ⟨_, 0, none⟩ 1 1 [.int .i64 (Sk : Nat), .slice ad mm cd] rfl rfl (World.news_of_block y2.out) D3.out (by decide) C4 D5 (Nat.le_trans hWX.out f3.out.size) _ rfl ?_; intro g7 c7 w7 ho7 hg7 hw7 hl7; have ff := (f3.out.trans (grown_F hg7) fun q hq e => .inr e); have n2 := Lib.hid (show (Value.slice wo k wc).ownBlock = some g7 ∨ X2.heap.size ≤ g7 from hw7.imp id fun h => by rw [h]; exact f3.out.size); have fF := Lib.hid ff; have R2 := Lib.hid ho7; have R1 := Lib.hid (row_same t1.out fun q hq hl => (grown_F hg7).block q hl fun e => by { obtain ⟨_, h9, cs2, hb2⟩ := own_type r2.out e; rcases n1.out with h | h; exact h12'.out q (by { have e2 : g3 = q := Option.some.inj hq; rw [← e2]; exact h }) e; have e2 : g3 = q := Option.some.inj hq; omega }); clear ho7 hg7 hw7 hl7 ff)
              | (refine step_append_lies _ rfl (.tmp 41) (.tmp 43) 60 rfl W.heap.size 28 di _ 2 32 Tryd.underlying60 hdi dz0 dz1 dz2 rfl (by decide) (.slice wo k wc) k _ rfl u2D.out ⟨_, 0, none⟩ 1 1 [.int .i64 (Sk : Nat), .slice ad mm cd] rfl rfl (World.news_of_block y2D.out) D3.out (by decide) C4 D5 (Nat.le_trans hWX.out f3D.out.size) _ rfl ?_; intro g7 c7 w7 ho7 hg7 hw7 hl7; have ff := (f3D.out.trans (grown_F hg7) fun q hq e => .inr e); have n2 := Lib.hid (show (Value.slice wo k wc).ownBlock = some g7 ∨ X2.heap.size ≤ g7 from hw7.imp id fun h => by rw [h]; exact f3D.out.size); have fF := Lib.hid ff; have R2 := Lib.hid ho7; have R1 := Lib.hid (row_same t1D.out fun q hq hl => (grown_F hg7).block q hl fun e => by { obtain ⟨_, h9, cs2, hb2⟩ := own_type r2.out e; rcases n1.out with h | h; exact h12'.out q (by { have e2 : g3 = q := Option.some.inj hq; rw [← e2]; exact h }) e; have e2 : g3 = q := Option.some.inj hq; omega }); clear ho7 hg7 hw7 hl7 ff)
              | (refine step_append_lies _ rfl (.tmp 37) (.tmp 39) 59 rfl W.heap.size 24 pi _ 1 8 Tryd.underlying59 hpi pz0 pz1 pz2 rfl (by decide) (.slice mo k mc) k _ rfl o1A1.out ⟨_, 0, none⟩ 1 1 [.pointer pv] rfl rfl (World.news_of_block pA1.out) C3.out (by decide) C4 C5 (Nat.le_trans hWX.out fA1.out.size) _ rfl ?_; intro g3 c3 w3 ho3 hg3 hw3 hl3; have ff := (fA1.out.trans (grown_F hg3) fun q hq e => .inl e); have n1 := Lib.hid (show (Value.slice mo k mc).ownBlock = some g3 ∨ X2.heap.size ≤ g3 from hw3.imp id fun h => by rw [h]; exact fA1.out.size); have f3 := Lib.hid ff; have t1 := Lib.hid ho3; have u2 := Lib.hid (row_same o2A1.out fun q hq hl => (grown_F hg3).block q hl fun e => h12'.out q e hq); have f3D := Lib.hid (f3.out.alloc (.cells #[.int .i64 (Sk : Nat), .slice ad mm cd] 28)); have u2D := Lib.hid (World.ownsRow.alloc u2.out (.cells #[.int .i64 (Sk : Nat), .slice ad mm cd] 28)); have y2D := Lib.hid (show Bk (w3.alloc (.cells #[.int .i64 (Sk : Nat), .slice ad mm cd] 28)) w3.heap.size 28 #[.int .i64 (Sk : Nat), .slice ad mm cd] from Bk.new rfl); have t1D := Lib.hid (World.ownsRow.alloc t1.out (.cells #[.int .i64 (Sk : Nat), .slice ad mm cd] 28)); clear ho3 hg3 hw3 hl3 ff)
              | (refine step_append_lies _ rfl (.tmp 37) (.tmp 39) 59 rfl W.heap.size 24 pi _ 1 8 Tryd.underlying59 hpi pz0 pz1 pz2 rfl (by decide) (.slice mo k mc) k _ rfl o1A2.out ⟨_, 0, none⟩ 1 1 [.pointer pv] rfl rfl (World.news_of_block pA2.out) C3.out (by decide) C4 C5 (Nat.le_trans hWX.out fA2.out.size) _ rfl ?_; intro g3 c3 w3 ho3 hg3 hw3 hl3; have ff := (fA2.out.trans (grown_F hg3) fun q hq e => .inl e); have n1 := Lib.hid (show (Value.slice mo k mc).ownBlock = some g3 ∨ X2.heap.size ≤ g3 from hw3.imp id fun h => by rw [h]; exact fA2.out.size); have f3 := Lib.hid ff; have t1 := Lib.hid ho3; have u2 := Lib.hid (row_same o2A2.out fun q hq hl => (grown_F hg3).block q hl fun e => h12'.out q e hq); have y2 := Lib.hid (Bk.far' qA2.out (grown_F hg3) (fun e => by { obtain ⟨_, h, _⟩ := own_type r1.out e; omega })); clear ho3 hg3 hw3 hl3 ff)
              | (refine step_append_lies _ rfl (.tmp 37) (.tmp 39) 59 rfl W.heap.size 24 pi _ 1 8 Tryd.underlying59 hpi pz0 pz1 pz2 rfl (by decide) (.slice mo k mc) k _ rfl o1A3.out ⟨_, 0, none⟩ 1 1 [.pointer pv] rfl rfl (World.news_of_block pA3.out) C3.out (by decide) C4 C5 (Nat.le_trans hWX.out fA3.out.size) _ rfl ?_; intro g3 c3 w3 ho3 hg3 hw3 hl3; have ff := (fA3.out.trans (grown_F hg3) fun q hq e => .inl e); have n1 := Lib.hid (show (Value.slice mo k mc).ownBlock = some g3 ∨ X2.heap.size ≤ g3 from hw3.imp id fun h => by rw [h]; exact fA3.out.size); have f3 := Lib.hid ff; have t1 := Lib.hid ho3; have u2 := Lib.hid (row_same o2A3.out fun q hq hl => (grown_F hg3).block q hl fun e => h12'.out q e hq); have y2 := Lib.hid (Bk.far' qA3.out (grown_F hg3) (fun e => by { obtain ⟨_, h, _⟩ := own_type r1.out e; omega })); clear ho3 hg3 hw3 hl3 ff)
              | (refine step_append_lies _ rfl (.tmp 41) (.tmp 43) 60 rfl W.heap.size 28 di _ 2 32 Tryd.underlying60 hdi dz0 dz1 dz2 rfl (by decide) (.slice wo k wc) k _ rfl o2B1.out ⟨_, 0, none⟩ 1 1 [.int .i64 (Sk : Nat), .slice ad mm cd] rfl rfl (World.news_of_block qB1.out) D3.out (by decide) C4 D5 (Nat.le_trans hWX.out fB1.out.size) _ rfl ?_; intro g7 c7 w7 ho7 hg7 hw7 hl7; have ff := (fB1.out.trans (grown_F hg7) fun q hq e => .inr e); have n2 := Lib.hid (show (Value.slice wo k wc).ownBlock = some g7 ∨ X2.heap.size ≤ g7 from hw7.imp id fun h => by rw [h]; exact fB1.out.size); have f7 := Lib.hid ff; have t2 := Lib.hid ho7; have u1 := Lib.hid (row_same o1B1.out fun q hq hl => (grown_F hg7).block q hl fun e => h12'.out q hq e); have f7P := Lib.hid (f7.out.alloc (.cells #[.pointer pv] 24)); have u1P := Lib.hid (World.ownsRow.alloc u1.out (.cells #[.pointer pv] 24)); have y1P := Lib.hid (show Bk (w7.alloc (.cells #[.pointer pv] 24)) w7.heap.size 24 #[.pointer pv] from Bk.new rfl); have t2P := Lib.hid (World.ownsRow.alloc t2.out (.cells #[.pointer pv] 24)); clear ho7 hg7 hw7 hl7 ff)
              | (refine step_append_lies _ rfl (.tmp 41) (.tmp 43) 60 rfl W.heap.size 28 di _ 2 32 Tryd.underlying60 hdi dz0 dz1 dz2 rfl (by decide) (.slice wo k wc) k _ rfl o2A2.out ⟨_, 0, none⟩ 1 1 [.int .i64 (Sk : Nat), .slice ad mm cd] rfl rfl (World.news_of_block qA2.out) D3.out (by decide) C4 D5 (Nat.le_trans hWX.out fA2.out.size) _ rfl ?_; intro g7 c7 w7 ho7 hg7 hw7 hl7; have ff := (fA2.out.trans (grown_F hg7) fun q hq e => .inr e); have n2 := Lib.hid (show (Value.slice wo k wc).ownBlock = some g7 ∨ X2.heap.size ≤ g7 from hw7.imp id fun h => by rw [h]; exact fA2.out.size); have f7 := Lib.hid ff; have t2 := Lib.hid ho7; have u1 := Lib.hid (row_same o1A2.out fun q hq hl => (grown_F hg7).block q hl fun e => h12'.out q hq e); have y1 := Lib.hid (Bk.far' pA2.out (grown_F hg7) (fun e => by { obtain ⟨_, h, _⟩ := own_type r2.out e; omega })); clear ho7 hg7 hw7 hl7 ff)
              | (refine step_append_lies _ rfl (.tmp 41) (.tmp 43) 60 rfl W.heap.size 28 di _ 2 32 Tryd.underlying60 hdi dz0 dz1 dz2 rfl (by decide) (.slice wo k wc) k _ rfl o2A3.out ⟨_, 0, none⟩ 1 1 [.int .i64 (Sk : Nat), .slice ad mm cd] rfl rfl (World.news_of_block qA3.out) D3.out (by decide) C4 D5 (Nat.le_trans hWX.out fA3.out.size) _ rfl ?_; intro g7 c7 w7 ho7 hg7 hw7 hl7; have ff := (fA3.out.trans (grown_F hg7) fun q hq e => .inr e); have n2 := Lib.hid (show (Value.slice wo k wc).ownBlock = some g7 ∨ X2.heap.size ≤ g7 from hw7.imp id fun h => by rw [h]; exact fA3.out.size); have f7 := Lib.hid ff; have t2 := Lib.hid ho7; have u1 := Lib.hid (row_same o1A3.out fun q hq hl => (grown_F hg7).block q hl fun e => h12'.out q hq e); have y1 := Lib.hid (Bk.far' pA3.out (grown_F hg7) (fun e => by { obtain ⟨_, h, _⟩ := own_type r2.out e; omega })); clear ho7 hg7 hw7 hl7 ff))
          all_goals
            go_wp2_with fail
            have hnx : ∃ vs' Fs' av' cv', CLs W S M (k + 1) vs' Fs' av' cv' (.slice (some ⟨g3, 0, none⟩) (k + 1) c3) (.slice (some ⟨g7, 0, none⟩) (k + 1) c7) _ := CLs.next hL'.out hfX.out (v := .pointer pv) hX'.out (by rw [hSk'.out, hmm'.out]; exact hD'.out) (by rw [hSk'.out, hmm'.out]; exact hDn'.out) fF.out R1.out (by rw [hSk'.out, hmm'.out]; exact R2.out) (fun g h => by { have e : g3 = g := Option.some.inj h; rw [← e]; exact n1.out }) (fun g h => by { have e : g7 = g := Option.some.inj h; rw [← e]; exact n2.out })
            have hnx' := Lib.hid hnx
            clear hnx
            go_roundw
            case rel =>
              obtain ⟨vs', Fs', av', cv', hC⟩ := hnx'.out
              exact ⟨k + 1, vs', Fs', av', cv', by omega, by go_num, hC⟩
            case measure => simp only [intOf]; omega
        · have e : k = n := by omega
          subst e
          have hki : ¬ (k : Int) < (k : Int) := by omega
          obtain ⟨hcp, q1⟩ := hL.cells1
          have q2 := hL.cells2
          have PC := pChain_any wd mo k mc (by omega) hcp vs Fs S M (fun h0 => by
            obtain ⟨g, e, hg, hc⟩ := q1 h0
            exact ⟨g, 0, e, hg, fun i hi => by rw [Nat.zero_add]; exact hc i hi⟩) hL.has (kT.out.still hL.far)
          have RC := Lib.hid (fun (V : World) (hV : Far (fun _ => False) wd V) => rChain_any V wo k wc (by omega) S M av (fun i => (cellsL (M i) (S i)).length) cv (fun h0 => by
            obtain ⟨g, e, hg, hc⟩ := (hL.still hV).cells2 h0
            exact ⟨g, 0, e, hg, fun i hi => by rw [Nat.zero_add]; exact hc i hi⟩) (fun i hi => (hL.still hV).doc i hi))
          obtain ⟨E, hE⟩ : ∃ E, chE S k = E := ⟨_, rfl⟩
          obtain ⟨Sp, hSp⟩ : ∃ x, chS S k = x := ⟨_, rfl⟩
          obtain ⟨Mp, hMp⟩ : ∃ x, chMM S M k = x := ⟨_, rfl⟩
          rw [hE, hSp, hMp] at PC
          rw [hE, hSp, hMp] at RC
          have hL' := Lib.hid hL
          clear hL q1 q2 hE hSp hMp
          go_wp2_with fail
          refine PC.mono ?_
          rintro e w1 ⟨vp, rfl, Fp, hXp, hlp, hf1⟩
          have RC1 := RC.out w1 hf1
          obtain ⟨pp, rfl⟩ := hXp.ptr
          have hXp' := Lib.hid hXp
          have hlp' := Lib.hid hlp
          have hf1' := Lib.hid hf1
          clear PC RC hXp hlp hf1
          go_wp2_with fail
          refine RC1.mono ?_
          rintro e w2 ⟨vd, rfl, hDp, hf2⟩
          have hDp' := Lib.hid hDp
          obtain ⟨adp, cdp, rfl, _⟩ := hDp
          obtain ⟨mp, hmp⟩ : ∃ x, (cellsL Mp Sp).length = x := ⟨_, rfl⟩
          rw [hmp] at hDp' ⊢
          obtain ⟨h10, hh10⟩ : ∃ h, h = w2.heap.size := ⟨_, rfl⟩
          obtain ⟨X3, hX3⟩ : ∃ V, V = w2.alloc (.cells #[.int .i64 (Sp : Nat), .slice adp mp cdp] 28) := ⟨_, rfl⟩
          have hf3 : Far (fun _ => False) w2 X3 := hX3 ▸ (Far.refl _ w2).alloc _
          have hB10 : Bk X3 h10 28 #[.int .i64 (Sp : Nat), .slice adp mp cdp] := hX3 ▸ Bk.new hh10
          have x0 : X3.cell? ⟨h10, 0, none⟩ = some (.int .i64 (Sp : Nat)) := hB10.cell 0
          have x1 : X3.cell? ⟨h10, 1, none⟩ = some (.slice adp mp cdp) := hB10.cell 1
          have hfd3 := Lib.hid (hf1'.out.then (hf2.then hf3))
          have hX3p := Lib.hid (hXp'.out.still (hf2.then hf3))
          have SM := same03_any hX3p.out (hDp'.out.move hf3) (kT.out.still (hL'.out.far.then hfd3.out))
          have hX3' := Lib.hid hX3
          have hh10' := Lib.hid hh10
          clear RC1 hmp hf2 hf3 hB10 hX3 hh10
          go_upto_region 12 with fail
          rw [← hh10'.out, ← hX3'.out]
          go_wp2_with fail
          refine SM.mono ?_
          rintro e w4 ⟨rfl, hf4⟩
          have hX4 := Lib.hid (hX3p.out.still hf4)
          have hfd4 := Lib.hid (hfd3.out.then hf4)
          clear SM hf4 x0 x1
          have hTAIL : ∀ V, Far (fun _ => False) wd V → CLs W S M k vs Fs av cv (.slice mo k mc) (.slice wo k wc) V := fun V hV => hL'.out.still hV
          have hTAIL' := Lib.hid hTAIL
          clear hTAIL
          rcases hX4.out with ⟨e9, _, _, _⟩ | ⟨Bp, e9, hXm⟩
          · have e9 : pp = none := by cases e9; rfl
            subst e9
            go_wp2_with fail
            go_loopw [12] (fun iv wr => ∃ i : Nat, i ≤ k ∧ iv = .int .i64 (i : Nat) ∧ Far (fun _ => False) wd wr) (fun iv _ => k - (intOf iv).toNat)
            case atStart => exact ⟨0, Nat.zero_le _, rfl, hfd4.out⟩
            case round =>
              obtain ⟨i, hi, rfl, hf⟩ := hrel
              obtain ⟨wi, hwi⟩ : ∃ wi, wi = wr := ⟨_, rfl⟩
              rw [← hwi] at hf ⊢
              clear hwi
              have hCL := hTAIL'.out wi hf
              have hfi := Lib.hid hf
              by_cases hit : i < k
              · have hii : (i : Int) < (k : Int) := by omega
                have hib : (i : Int) + 1 ≤ 9223372036854775807 := by omega
                have hi0 : (0 : Int) ≤ (i : Int) := by omega
                obtain ⟨g1, rfl, hg1, hc1⟩ := hCL.cells1.2 (by omega)
                obtain ⟨g2, rfl, hg2, hc2⟩ := hCL.cells2 (by omega)
                have y0 := hc1 i hit
                obtain ⟨y1, y2⟩ := hc2 i hit
                have SM := Lib.hid (fun (V : World) (hV : Far (fun _ => False) wi V) => same03_any ((hCL.has i hit).still hV) ((hCL.doc i hit).move hV) (kT.out.still (hCL.far.then hV)))
                unfold docV at SM
                obtain ⟨pi, hpi⟩ := (hCL.has i hit).ptr
                obtain ⟨Si, hSi⟩ : ∃ x, S i = x := ⟨_, rfl⟩
                obtain ⟨li, hli⟩ : ∃ x, (cellsL (M i) Si).length = x := ⟨_, rfl⟩
                obtain ⟨ai, hai⟩ : ∃ x, av i = x := ⟨_, rfl⟩
                obtain ⟨ci, hci⟩ : ∃ x, cv i = x := ⟨_, rfl⟩
                rw [hpi] at y0 SM
                rw [hSi] at y1 y2 SM
                rw [hli, hai, hci] at y2 SM
                have HS := Lib.hid (show ∀ V, Far (fun _ => False) wi V → V.cell? ⟨g1, i, none⟩ = some (.pointer pi) ∧ V.cell? ⟨g2, i * 2, none⟩ = some (.int .i64 (Si : Nat)) ∧ V.cell? ⟨g2, i * 2 + 1, none⟩ = some (.slice ai li ci) from fun V hV => ⟨(hV.cell hg1).trans y0, (hV.cell hg2).trans y1, (hV.cell hg2).trans y2⟩)
                have hfd := Lib.hid (Far.refl (fun _ => False) wi).drew
                clear hCL hf hc1 hc2 hpi hSi hli hai hci hg1 hg2
                go_upto_region 19 with fail
                go_region_held3 (fun V => V.cell? ⟨g1, i, none⟩ = some (.pointer pi) ∧ V.cell? ⟨g2, i * 2, none⟩ = some (.int .i64 (Si : Nat)) ∧ V.cell? ⟨g2, i * 2 + 1, none⟩ = some (.slice ai li ci)) (first | exact HS.out _ hf9.out | exact HS.out _ hfd.out)
                  ((go_at_call 29; (with_reducible refine (SM.out _ hfd.out).mono ?_); rintro e w9 ⟨rfl, hfx⟩; have hf9 := Lib.hid (hfd.out.then hfx); clear hfx))
                have hfin := Lib.hid (hfi.out.then hf9.out)
                go_wp2_with fail
                go_roundw
                case rel => exact ⟨i + 1, by omega, by go_num, hfin.out⟩
                case measure => simp only [intOf]; omega
              · have e : i = k := by omega
                subst e
                have AW := awake03_any wi (kT.out.still hCL.far)
                have hfw := Lib.hid hCL.far
                clear hCL hf
                go_wp2_with fail
                refine AW.mono ?_
                rintro e wz ⟨rfl, hfz⟩
                have hfz' := Lib.hid (hfw.out.then hfz)
                clear AW hfz
                go_wp2_with fail
                go_ret
                exact ⟨rfl, hfz'.out⟩
          · have e9 : pp = some ⟨Bp, 0, none⟩ := by cases e9; rfl
            subst e9
            have hsd := hXm.sides.1
            have ST := qset_yes hXm 0 0 (by omega) (by omega)
            clear hXm
            go_wp2_with fail
            refine ST.mono ?_
            rintro e w5 ⟨rfl, F5, hX5, hm5⟩
            have hfd5 := Lib.hid (hfd4.out.trans hm5.far fun q hq e => by have := hlp'.out q e; omega)
            clear ST hX5 hm5
            go_wp2_with fail
            go_loopw [12] (fun iv wr => ∃ i : Nat, i ≤ k ∧ iv = .int .i64 (i : Nat) ∧ Far (fun _ => False) wd wr) (fun iv _ => k - (intOf iv).toNat)
            case atStart => exact ⟨0, Nat.zero_le _, rfl, hfd5.out⟩
            case round =>
              obtain ⟨i, hi, rfl, hf⟩ := hrel
              obtain ⟨wi, hwi⟩ : ∃ wi, wi = wr := ⟨_, rfl⟩
              rw [← hwi] at hf ⊢
              clear hwi
              have hCL := hTAIL'.out wi hf
              have hfi := Lib.hid hf
              by_cases hit : i < k
              · have hii : (i : Int) < (k : Int) := by omega
                have hib : (i : Int) + 1 ≤ 9223372036854775807 := by omega
                have hi0 : (0 : Int) ≤ (i : Int) := by omega
                obtain ⟨g1, rfl, hg1, hc1⟩ := hCL.cells1.2 (by omega)
                obtain ⟨g2, rfl, hg2, hc2⟩ := hCL.cells2 (by omega)
                have y0 := hc1 i hit
                obtain ⟨y1, y2⟩ := hc2 i hit
                have SM := Lib.hid (fun (V : World) (hV : Far (fun _ => False) wi V) => same03_any ((hCL.has i hit).still hV) ((hCL.doc i hit).move hV) (kT.out.still (hCL.far.then hV)))
                unfold docV at SM
                obtain ⟨pi, hpi⟩ := (hCL.has i hit).ptr
                obtain ⟨Si, hSi⟩ : ∃ x, S i = x := ⟨_, rfl⟩
                obtain ⟨li, hli⟩ : ∃ x, (cellsL (M i) Si).length = x := ⟨_, rfl⟩
                obtain ⟨ai, hai⟩ : ∃ x, av i = x := ⟨_, rfl⟩
                obtain ⟨ci, hci⟩ : ∃ x, cv i = x := ⟨_, rfl⟩
                rw [hpi] at y0 SM
                rw [hSi] at y1 y2 SM
                rw [hli, hai, hci] at y2 SM
                have HS := Lib.hid (show ∀ V, Far (fun _ => False) wi V → V.cell? ⟨g1, i, none⟩ = some (.pointer pi) ∧ V.cell? ⟨g2, i * 2, none⟩ = some (.int .i64 (Si : Nat)) ∧ V.cell? ⟨g2, i * 2 + 1, none⟩ = some (.slice ai li ci) from fun V hV => ⟨(hV.cell hg1).trans y0, (hV.cell hg2).trans y1, (hV.cell hg2).trans y2⟩)
                have hfd := Lib.hid (Far.refl (fun _ => False) wi).drew
                clear hCL hf hc1 hc2 hpi hSi hli hai hci hg1 hg2
                go_upto_region 19 with fail
                go_region_held3 (fun V => V.cell? ⟨g1, i, none⟩ = some (.pointer pi) ∧ V.cell? ⟨g2, i * 2, none⟩ = some (.int .i64 (Si : Nat)) ∧ V.cell? ⟨g2, i * 2 + 1, none⟩ = some (.slice ai li ci)) (first | exact HS.out _ hf9.out | exact HS.out _ hfd.out)
                  ((go_at_call 29; (with_reducible refine (SM.out _ hfd.out).mono ?_); rintro e w9 ⟨rfl, hfx⟩; have hf9 := Lib.hid (hfd.out.then hfx); clear hfx))
                have hfin := Lib.hid (hfi.out.then hf9.out)
                go_wp2_with fail
                go_roundw
                case rel => exact ⟨i + 1, by omega, by go_num, hfin.out⟩
                case measure => simp only [intOf]; omega
              · have e : i = k := by omega
                subst e
                have AW := awake03_any wi (kT.out.still hCL.far)
                have hfw := Lib.hid hCL.far
                clear hCL hf
                go_wp2_with fail
                refine AW.mono ?_
                rintro e wz ⟨rfl, hfz⟩
                have hfz' := Lib.hid (hfw.out.then hfz)
                clear AW hfz
                go_wp2_with fail
                go_ret
                exact ⟨rfl, hfz'.out⟩
end
end Go.Proofs.YtkobbcmndneajaaDoor
