/-
  A body of nonterminals, cut into bodies of two.
-/
import Derived.Test.YtjkfieilaahejaaLabel14
import Derived.Outline
namespace Go.Proofs.Ytjkfieilaahejaa
open Go.RowKit
open Go.Maps (Keyed)
set_option linter.unusedVariables false
set_option linter.unusedSimpArgs false
def chainF : List Sy → Fs → Int → Fs
  | x :: y :: z :: l, s, h => if 1024 ≤ s.n then { s with n := s.n + 1 } else chainF (y :: z :: l) { s with n := s.n + 1, ps := s.ps ++ [(h, [x, (false, (s.n : Int))])] } s.n
  | [], s, h => addF s h []
  | [x], s, h => addF s h [x]
  | [x, y], s, h => addF s h [x, y]
/-- The rest of a body, in a block of av. -/
def CB (w : World) (av : Nat → Prop) (g o : Nat) (l : List Sy) : Prop := g < w.heap.size ∧ av g ∧ ∀ j u, (scells l)[j]? = some u → w.cell? ⟨g, o + j, none⟩ = some u
theorem CB.keep {w w' : World} {av : Nat → Prop} {g o : Nat} {l : List Sy} (h : CB w av g o l) (hf : Far (fun k => ¬ av k) w w') : CB w' av g o l :=
  ⟨Nat.lt_of_lt_of_le h.1 hf.size, h.2.1, fun j u hu => (cell_eq (hf.block _ h.1 fun q => q h.2.1)).trans (h.2.2 j u hu)⟩
theorem CB.tail {w : World} {av : Nat → Prop} {g o : Nat} {x : Sy} {l : List Sy} (h : CB w av g o (x :: l)) : CB w av g (o + 2) l :=
  ⟨h.1, h.2.1, fun j u hu => by
    have := h.2.2 (j + 2) u (by simpa [scells, scell] using hu)
    rwa [show o + (j + 2) = o + 2 + j by omega] at this⟩
theorem CB.at {w : World} {av : Nat → Prop} {g o : Nat} {l : List Sy} (h : CB w av g o l) {k : Nat} {x : Sy} (hk : l[k]? = some x) : w.cell? ⟨g, o + k * 2, none⟩ = some (.bool x.1) ∧ w.cell? ⟨g, o + k * 2 + 1, none⟩ = some (.int .i64 x.2) :=
  ⟨h.2.2 _ _ (scells_get hk).1, h.2.2 _ _ (scells_get hk).2⟩
section
set_option maxHeartbeats 4000000
set_option maxRecDepth 100000
theorem chain_any (B fB cB mB : Nat) (av : Nat → Prop) (s : Fs) (h : Int) (g o c : Nat) (l : List Sy) (w : World) (hM : FM w B fB cB mB av s) (hb : CB w av g o l) (h2 : 2 ≤ l.length) (hc : l.length ≤ c) (hps : s.ps.length + l.length ≤ 1099511627776) (hn : s.n + l.length ≤ 1099511627776) (hav : ∀ k, av k → k < w.heap.size) :
    Calls Try.prog 59 #[.pointer (some ⟨fB, 0, none⟩), .int .i64 h, .slice (some ⟨g, o, none⟩) l.length c] w fun e w' => e = .returned (.tuple #[]) ∧ FM w' B fB cB mB av (chainF l s h) ∧ Far (fun k => ¬ av k) w w' := by
  have hM' := Lib.hid hM
  have hb' := Lib.hid hb
  have hav' := Lib.hid hav
  obtain ⟨m0, hm0⟩ : ∃ m, m = l.length := ⟨_, rfl⟩
  rw [← hm0] at h2 hc hps hn ⊢
  have hm0' := Lib.hid hm0
  clear hM hb hav hm0
  go_enter Try.func59, Try.ntmps59
  go_wp2_with fail
  go_loopg [1, 2, 6] (m0) (fun k hv bv uv wr => ∃ (s' : Fs) (h' : Int) (o' c' m : Nat) (l' : List Sy), hv = .int .i64 h' ∧ bv = .slice (some ⟨g, o', none⟩) m c' ∧ k = m ∧ m ≤ c' ∧ 2 ≤ m ∧ Hid (l'.length = m) ∧ Hid (FM wr B fB cB mB av s') ∧ Hid (CB wr av g o' l') ∧ Far (fun k => ¬ av k) w wr ∧ Hid (chainF l' s' h' = chainF l s h) ∧ s'.ps.length + m ≤ 1099511627776 ∧ s'.n + m ≤ 1099511627776 ∧ c' ≤ c)
  case atStart => exact ⟨s, h, o, c, m0, l, rfl, rfl, rfl, hc, h2, Lib.hid hm0'.out.symm, hM', hb', Far.refl _ _, Lib.hid rfl, hps, hn, Nat.le_refl _⟩
  case round =>
    obtain ⟨s', h', o', c', m, l', rfl, rfl, hkm, hmc, hm2, hlm, hMr, hbr, hfw, hch, hps', hn', hcc⟩ := hrel
    have hkm' := Lib.hid hkm
    clear hkm
    by_cases h3 : 2 < m
    · have e1 : decide ((m : Int) > 2) = true := by rw [decide_eq_true_eq]; omega
      obtain ⟨x, y, z, r, rfl⟩ : ∃ x y z r, l' = x :: y :: z :: r := by
        have := hlm.out
        match l', this with
        | [], q => simp at q; omega
        | [_], q => simp at q; omega
        | [_, _], q => simp at q; omega
        | x :: y :: z :: r, _ => exact ⟨x, y, z, r, rfl⟩
      obtain ⟨f0, _, _, mC, _, lf, nfs, nfc⟩ := hMr.out.cells
      have NX := next_any cB s'.n wr mC (by omega)
      have hMc := hMr.out.count
      have hfc := (Far.refl (fun k => k = cB) wr).set ⟨cB, 0, none⟩ (.int .i64 ((s'.n + 1 : Nat) : Int)) (fun _ => rfl)
      obtain ⟨Wc, hWc⟩ : ∃ Wc, Wc = wr.setCell ⟨cB, 0, none⟩ (.int .i64 ((s'.n + 1 : Nat) : Int)) := ⟨_, rfl⟩
      rw [← hWc] at NX hMc hfc
      have hfWc : Far (fun k => ¬ av k) w Wc := hfw.trans (hfc.mono (G := fun k => ¬ av k) fun k _ e => e ▸ nfs.2.1) fun _ _ q => q
      have hbc := hbr.out.keep (hfc.mono (G := fun k => ¬ av k) fun k _ e => e ▸ nfs.2.1)
      have hMc' := Lib.hid hMc
      have hfWc' := Lib.hid hfWc
      have hbc' := Lib.hid hbc
      have hch' := Lib.hid hch.out
      clear mC nfs nfc hMc hfc hWc hfWc hbc hMr hbr hfw hch
      by_cases hbig : 1024 ≤ s'.n
      · have e2 : decide ((s'.n : Int) ≥ 1024) = true := by rw [decide_eq_true_eq]; omega
        have e2' : decide ((1024 : Int) ≤ (s'.n : Int)) = true := by rw [decide_eq_true_eq]; omega
        have hfin := Lib.hid (show chainF l s h = { s' with n := s'.n + 1 } by rw [← hch'.out, chainF, if_pos hbig])
        clear hbig
        go_wp2_with fail
        refine NX.mono ?_
        rintro e w' ⟨rfl, hw'⟩
        rw [hw']
        clear hw' NX f0
        go_wp2_with fail
        refine bodyPost_ret (results_none rfl _ _ _) rfl ?_
        exact ⟨rfl, by rw [hfin.out]; exact hMc'.out, hfWc'.out⟩
      · have e2 : decide ((s'.n : Int) ≥ 1024) = false := by rw [decide_eq_false_iff_not]; omega
        have e2' : decide ((1024 : Int) ≤ (s'.n : Int)) = false := by rw [decide_eq_false_iff_not]; omega
        have hfin := Lib.hid (show chainF (y :: z :: r) { s' with n := s'.n + 1, ps := s'.ps ++ [(h', [x, (false, (s'.n : Int))])] } s'.n = chainF l s h by rw [← hch'.out, chainF, if_neg hbig])
        obtain ⟨x0, x1⟩ := hbc'.out.at (k := 0) (x := x) rfl
        obtain ⟨xb, xn⟩ := x
        dsimp only at x0 x1
        simp only [Nat.zero_mul, Nat.add_zero] at x0 x1
        have hlg := hbc'.out.1
        have havc : ∀ k, av k → k < Wc.heap.size := fun k q => Nat.lt_of_lt_of_le (hav'.out k q) hfWc'.out.size
        have AD := add_any B fB cB mB av { s' with n := s'.n + 1 } h' (.slice (some ⟨Wc.heap.size, 0, none⟩) 2 2) [(xb, xn), (false, (s'.n : Int))] (Wc.alloc (.cells #[.bool xb, .int .i64 xn, .bool false, .int .i64 (s'.n : Int)] 50)) (hMc'.out.move (alloc_far0 _ _)) (FB.new Wc av [(xb, xn), (false, (s'.n : Int))] havc) (show s'.ps.length ≤ _ by omega) fun k q => by have := havc k q; simp; omega
        have hfa := Lib.hid ((alloc_far0 Wc (.cells #[.bool xb, .int .i64 xn, .bool false, .int .i64 (s'.n : Int)] 50)).mono (G := fun k => ¬ av k) fun _ _ q => q.elim)
        clear hbig havc
        go_wp2_with fail
        refine NX.mono ?_
        rintro e w' ⟨rfl, hw'⟩
        rw [hw']
        clear hw' NX f0
        go_wp2_with fail
        refine AD.mono ?_
        rintro e w9 ⟨rfl, hM9, hf9⟩
        have hM9' := Lib.hid hM9
        have hfa9 := hfa.out.trans hf9 fun k _ q => q
        have hF9 := Lib.hid (hfWc'.out.trans hfa9 fun k _ q => q)
        have hb9 := Lib.hid (hbc'.out.keep hfa9).tail
        clear AD hM9 hf9 hfa9 x0 x1
        go_upto_region 4 with fail
        go_quiet (fail)
        go_wp2_with fail
        have hq9 := Lib.hid ((Far.refl (fun _ => False) w9).drewN nq)
        have hMd := Lib.hid (hM9'.out.move hq9.out)
        have hbd := Lib.hid (hb9.out.keep (hq9.out.mono (G := fun k => ¬ av k) fun _ _ q => q.elim))
        have hFd := Lib.hid (hF9.out.drewN nq)
        have hl2 := Lib.hid (show (y :: z :: r).length = m - 1 by have := hlm.out; simp at this ⊢; omega)
        have hps2 : (s'.ps ++ [(h', [((xb, xn) : Sy), (false, (s'.n : Int))])]).length + (m - 1) ≤ 1099511627776 := by rw [List.length_append]; simp; omega
        go_roundg (m - 1)
        case measure => have := hkm'.out; omega
        case rel => exact ⟨{ s' with n := s'.n + 1, ps := s'.ps ++ [(h', [(xb, xn), (false, (s'.n : Int))])] }, (s'.n : Int), o' + 2, c' - 1, m - 1, y :: z :: r, rfl, rfl, rfl, by omega, by omega, hl2, hMd, hbd, hFd.out, hfin, hps2, by dsimp only; omega, by omega⟩
    · have e1 : decide ((m : Int) > 2) = false := by rw [decide_eq_false_iff_not]; omega
      have hme : m = 2 := by omega
      subst hme
      obtain ⟨x, y, rfl⟩ : ∃ x y, l' = [x, y] := by
        have := hlm.out
        match l', this with
        | [], q => simp at q
        | [_], q => simp at q
        | [x, y], _ => exact ⟨x, y, rfl⟩
        | _ :: _ :: _ :: _, q => simp at q
      have hfin := Lib.hid (show chainF l s h = addF s' h' [x, y] by rw [← hch.out, chainF])
      obtain ⟨x0, x1⟩ := hbr.out.at (k := 0) (x := x) rfl
      obtain ⟨y0, y1⟩ := hbr.out.at (k := 1) (x := y) rfl
      obtain ⟨xb, xn⟩ := x
      obtain ⟨yb, yn⟩ := y
      dsimp only at x0 x1 y0 y1
      simp only [Nat.zero_mul, Nat.add_zero, Nat.one_mul] at x0 x1 y0 y1
      have hlg := hbr.out.1
      have hag := hbr.out.2.1
      have HK := Lib.hid (fun w' (hf : Far (fun k => ¬ av k) wr w') => (show w'.cell? ⟨g, o', none⟩ = some (.bool xb) ∧ w'.cell? ⟨g, o' + 1, none⟩ = some (.int .i64 xn) ∧ w'.cell? ⟨g, o' + 2, none⟩ = some (.bool yb) ∧ w'.cell? ⟨g, o' + 2 + 1, none⟩ = some (.int .i64 yn) from ⟨(cell_eq (p := ⟨g, o', none⟩) (hf.block g hlg fun q => q hag)).trans x0, (cell_eq (p := ⟨g, o' + 1, none⟩) (hf.block g hlg fun q => q hag)).trans x1, (cell_eq (p := ⟨g, o' + 2, none⟩) (hf.block g hlg fun q => q hag)).trans y0, (cell_eq (p := ⟨g, o' + 2 + 1, none⟩) (hf.block g hlg fun q => q hag)).trans y1⟩))
      have havc : ∀ k, av k → k < wr.heap.size := fun k q => Nat.lt_of_lt_of_le (hav'.out k q) hfw.size
      have AD := add_any B fB cB mB av s' h' (.slice (some ⟨wr.heap.size, 0, none⟩) 2 2) [(xb, xn), (yb, yn)] (wr.alloc (.cells #[.bool xb, .int .i64 xn, .bool yb, .int .i64 yn] 50)).drew (hMr.out.move (alloc_far0 _ _).drew) ((FB.new wr av [(xb, xn), (yb, yn)] havc).go (drew_far _) (fun _ _ q => q.elim) fun _ _ q => q) (by omega) fun k q => by have := havc k q; show k < (wr.alloc _).heap.size; simp; omega
      have hfa := Lib.hid (((alloc_far0 wr (.cells #[.bool xb, .int .i64 xn, .bool yb, .int .i64 yn] 50)).drew).mono (G := fun k => ¬ av k) fun _ _ q => q.elim)
      have AD' := Lib.hid AD
      have hfw' := Lib.hid hfw
      clear hMr hbr hfw hch havc AD
      go_upto_region 5 with fail
      go_region_held3 (fun w' => w'.cell? ⟨g, o', none⟩ = some (.bool xb) ∧ w'.cell? ⟨g, o' + 1, none⟩ = some (.int .i64 xn) ∧ w'.cell? ⟨g, o' + 2, none⟩ = some (.bool yb) ∧ w'.cell? ⟨g, o' + 2 + 1, none⟩ = some (.int .i64 yn)) (go_keep)
        (first
          | (go_at_call 56; refine AD'.out.mono ?_; rintro e w9 ⟨rfl, hM9, hf9⟩; obtain ⟨r0, r1, r2, r3⟩ := HK.out w9 (hfa.out.trans hf9 fun _ _ q => q); have hM9' := Lib.hid hM9; have hF9 := Lib.hid ((hfw'.out.trans hfa.out fun _ _ q => q).trans hf9 fun _ _ q => q); clear hM9 hf9))
      go_wp2_with fail
      go_end0
      exact ⟨rfl, by rw [hfin.out]; exact hM9'.out, hF9.out⟩
end
end Go.Proofs.Ytjkfieilaahejaa
