/-
  Push of a frame that is new.
-/
import Derived.Test.YthpkbeooplpinaaKeep
namespace Go.Proofs.Ythpkbeooplpinaa
open Go.RowKit
open Go.Maps (Keyed)
set_option linter.unusedVariables false
set_option linter.unusedSimpArgs false
theorem row_mono {w : World} {base base' : Nat} {e : TypeId} {size : Nat} {v : Value} {n : Nat} {xs : List Value} (h : w.ownsRow base e size v n xs) (hb : base' ≤ base) : w.ownsRow base' e size v n xs := by
  refine ⟨h.1, ?_⟩
  rcases h.2 with h' | ⟨g, cap, cur, h', hbg, r⟩
  · exact .inl h'
  · exact .inr ⟨g, cap, cur, h', Nat.le_trans hb hbg, r⟩
/-- The stack behind the append to a node's frames. -/
theorem push_mid {w W w5 : World} {B K m1 m2 m3 g cap i nf fcap fg fcap' n : Nat} {ao : Option Addr} {L : List Rw} {c1 c2 c3 : Value → Option Int} {r : Rw} {x y : Int} {o : Obj} (hn : n = L.length) (hC : Core w B K m1 m2 m3 (.slice (some ⟨g, 0, none⟩) n cap) L c1 c2 c3) (hr : L[i]? = some r) (hfv : r.fv = .slice ao nf fcap)
    (hF5 : Far (fun k => k = m2) w W) (hT5 : Tally W 88 m2 (K + 1) (putAt c2 (tr i x y) 1))
    (hg5 : (W.alloc o).drew.grownBy w5 (Value.slice ao nf fcap).ownBlock) (ho5 : w5.ownsRow 0 38 2 (.slice (some ⟨fg, 0, none⟩) (r.nd.fs.length + 1) fcap') (r.nd.fs.length + 1) (fcells r.nd.fs ++ [.int .i64 x, .int .i64 y]))
    (hA6 : Bk w5 B 77 #[.slice (some ⟨g, 0, none⟩) n cap, .map (some m1), .map (some m2), .map (some m3)]) (hR6 : w5.ownsRow 0 81 4 (.slice (some ⟨g, 0, none⟩) n cap) n (nc L))
    (hat : (Value.slice ao nf fcap).ownBlock = some fg ∨ fg = (W.alloc o).drew.heap.size) :
    Core (w5.setCell ⟨g, i * 4 + 2, none⟩ (.slice (some ⟨fg, 0, none⟩) (r.nd.fs.length + 1) fcap')) B (K + 1) m1 m2 m3 (.slice (some ⟨g, 0, none⟩) n cap) (L.set i ⟨⟨r.nd.mark, r.nd.place, r.nd.fs ++ [(x, y)], r.nd.ps⟩, (.slice (some ⟨fg, 0, none⟩) (r.nd.fs.length + 1) fcap'), r.pv⟩) c1 (putAt c2 (tr i x y) 1) c3 ∧
      Far (fun k => k = m2 ∨ (Value.slice (some ⟨g, 0, none⟩) n cap).ownBlock = some k ∨ r.fv.ownBlock = some k) w (w5.setCell ⟨g, i * 4 + 2, none⟩ (.slice (some ⟨fg, 0, none⟩) (r.nd.fs.length + 1) fcap')) ∧
      ((Value.slice (some ⟨fg, 0, none⟩) (r.nd.fs.length + 1) fcap').ownBlock = r.fv.ownBlock ∨ ∃ g, (Value.slice (some ⟨fg, 0, none⟩) (r.nd.fs.length + 1) fcap').ownBlock = some g ∧ w.heap.size ≤ g) := by
  have hst := World.ownsRow.stored hR6 (i * 4 + 2) (.slice (some ⟨fg, 0, none⟩) (r.nd.fs.length + 1) fcap')
  have hH : (W.alloc o).drew.heap.size = W.heap.size + 1 := by
    show (W.alloc o).heap.size = _
    simp
  have hfar : Far (fun k => k = m2 ∨ (Value.slice (some ⟨g, 0, none⟩) n cap).ownBlock = some k ∨ r.fv.ownBlock = some k) w (w5.setCell ⟨g, i * 4 + 2, none⟩ (.slice (some ⟨fg, 0, none⟩) (r.nd.fs.length + 1) fcap')) :=
    (((hF5.mono (G := fun k => k = m2 ∨ (Value.slice (some ⟨g, 0, none⟩) n cap).ownBlock = some k ∨ r.fv.ownBlock = some k) (fun k _ e => .inl e)).alloc o).drew.grown hg5 (fun k _ e => .inr (.inr (by rw [hfv]; exact e)))).grown hst.2 (fun k _ e => .inr (.inl e))
  have hfvb : (Value.slice (some ⟨fg, 0, none⟩) (r.nd.fs.length + 1) fcap').ownBlock = r.fv.ownBlock ∨ ∃ g, (Value.slice (some ⟨fg, 0, none⟩) (r.nd.fs.length + 1) fcap').ownBlock = some g ∧ w.heap.size ≤ g := by
    rcases hat with e | e
    · left; rw [hfv, e]; rfl
    · right; exact ⟨fg, rfl, by have := hF5.size; omega⟩
  have hgB : g ≠ B := fun e => row_ne hC.top hC.row ne_sn (by rw [← e]; rfl)
  have hgm : g ≠ m2 := fun e => tally_ne hC.t2 hC.row (by rw [← e]; rfl)
  have hgf : g ≠ fg := fun e => by
    rcases rows_ne hR6 ho5 ne_nf with e' | e'
    · cases e'
    · exact e' (by rw [e]; rfl)
  have hT6 : Tally w5 88 m2 (K + 1) (putAt c2 (tr i x y) 1) := Tally.kept (w := (W.alloc o).drew) (hT5.alloc o) hg5 fun e => tally_ne hC.t2 (hC.frames i r hr) (by rw [hfv]; exact e.symm)
  refine ⟨hC.framed hr hfar hfvb ?_ ?_ ?_ ?_, hfar, hfvb⟩
  · exact hA6.far (fun e => hgB e.symm) _
  · rw [← hn]; exact hst.1
  · exact ho5.kept hst.2 (.inr (fun e => hgf (Option.some.inj e).symm))
  · exact hT6.set (fun e => hgm e.symm) _
section
set_option maxHeartbeats 2000000
set_option maxRecDepth 100000
theorem push_new (w : World) (i x : Nat) (y : Int) (B K m1 m2 m3 : Nat) (sl : Value) (L : List Rw) (c1 c2 c3 : Value → Option Int) (r : Rw) (hK : K < 1000000) (hC : Core w B K m1 m2 m3 sl L c1 c2 c3)
    (hr : L[i]? = some r) (hx : x < L.length) (hy : Fit y) (hnew : ((x : Int), y) ∉ r.nd.fs) :
    Calls Try.prog 16 #[.pointer (some ⟨B, 0, none⟩), .int .i64 i, .agg #[.int .i64 x, .int .i64 y]] w fun e w' => ∃ g fv,
      e = .returned (.tuple #[.slice (some ⟨g, 0, none⟩) r.nd.ps.length r.nd.ps.length, .bool true, .int .i64 0]) ∧ w'.ownsRow w.heap.size 3 1 (.slice (some ⟨g, 0, none⟩) r.nd.ps.length r.nd.ps.length) r.nd.ps.length (pcells r.nd.ps) ∧
      ¬ foot B m1 m2 m3 sl (L.set i ⟨⟨r.nd.mark, r.nd.place, r.nd.fs ++ [((x : Int), y)], r.nd.ps⟩, fv, r.pv⟩) g ∧
      Core w' B (K + 1) m1 m2 m3 sl (L.set i ⟨⟨r.nd.mark, r.nd.place, r.nd.fs ++ [((x : Int), y)], r.nd.ps⟩, fv, r.pv⟩) c1 (putAt c2 (tr i x y) 1) c3 ∧
      (fv.ownBlock = r.fv.ownBlock ∨ ∃ g, fv.ownBlock = some g ∧ w.heap.size ≤ g) ∧ Far (fun k => k = m2 ∨ sl.ownBlock = some k ∨ r.fv.ownBlock = some k) w w' := by
  have hi : i < L.length := (List.getElem?_eq_some_iff.1 hr).1
  have hn : L.length < 1000000 := Nat.lt_of_le_of_lt hC.many hK
  obtain ⟨n, hnn⟩ : ∃ n, n = L.length := ⟨_, rfl⟩
  rw [← hnn] at hi hx hn
  obtain ⟨g, cap, hsl, _, hgl⟩ := hC.row.form (by omega)
  subst hsl
  obtain ⟨ao, nf, fcap, hfv⟩ : ∃ ao nf fcap, r.fv = .slice ao nf fcap := by
    rcases row_shape (hC.frames i r hr) with ⟨h, _⟩ | ⟨b, c, h, _⟩
    · exact ⟨none, 0, 0, h⟩
    · exact ⟨_, _, _, h⟩
  have hB := hC.top
  have hT := hC.t2
  have hc : c2 (tr i x y) = none := ((hC.told.framed i r.nd (by rw [List.getElem?_map, hr]; rfl) x y).2 hnew)
  have hlt := hB.lt
  have hm2 := hT.lt
  have hBm : B ≠ m2 := fun e => hT.notCells (by rw [← e]; exact hB)
  have hgm : g ≠ m2 := fun e => tally_ne hT hC.row (by rw [← e]; rfl)
  obtain ⟨l, hl⟩ := key_arr3 (a := i) (b := x) (c := y) (by unfold Fit; omega) (by unfold Fit; omega) hy
  obtain ⟨w1, hw1⟩ : ∃ w1, w1 = (w.alloc (.cells #[.int .i64 x, .int .i64 y] 38)).alloc (.cells #[.int .i64 i, .int .i64 x] 3) := ⟨_, rfl⟩
  have hA : Bk w1 B 77 #[.slice (some ⟨g, 0, none⟩) L.length cap, .map (some m1), .map (some m2), .map (some m3)] := hw1 ▸ (hB.alloc _).alloc _
  have hCC : Bk w1 (w.heap.size + 1) 3 #[.int .i64 i, .int .i64 x] := hw1 ▸ Bk.new (by simp)
  have hxx : ∀ k, k < 2 → w1.cell? ⟨w.heap.size + 1, 0 + k, none⟩ = some (.int .i64 ((fun k => if k = 0 then (i : Int) else x) k)) := fun k hk => by
    have : k = 0 ∨ k = 1 := by omega
    rcases this with rfl | rfl
    · exact hCC.cell 0
    · exact hCC.cell 1
  have CK := check_ok (fun k => if k = 0 then (i : Int) else x) 2 (w.heap.size + 1) 0 2 B m1 (some ⟨g, 0, none⟩) L.length cap w1 (by omega) (by omega) (hA.cell 0) (hA.cell 1) hxx (fun k _ => by split <;> omega)
  rw [hw1] at CK
  -- the world behind the key's variable
  obtain ⟨w2, hw2⟩ : ∃ w2, w2 = ((w.alloc (.cells #[.int .i64 x, .int .i64 y] 38)).alloc (.cells #[.int .i64 i, .int .i64 x] 3)).alloc (.cells #[.int .i64 i, .int .i64 x, .int .i64 y] 88) := ⟨_, rfl⟩
  have hA2 : Bk w2 B 77 #[.slice (some ⟨g, 0, none⟩) L.length cap, .map (some m1), .map (some m2), .map (some m3)] := hw2 ▸ ((hB.alloc _).alloc _).alloc _
  have hf2 : Bk w2 w.heap.size 38 #[.int .i64 x, .int .i64 y] := hw2 ▸ ((Bk.new rfl).alloc _).alloc _
  have hK2 : Bk w2 (w.heap.size + 2) 88 #[.int .i64 i, .int .i64 x, .int .i64 y] := hw2 ▸ Bk.new (by simp)
  have hT2 : Tally w2 88 m2 K c2 := hw2 ▸ ((hT.alloc _).alloc _).alloc _
  have hF2 : Far (fun _ => False) w w2 := hw2 ▸ (((Far.refl _ w).alloc _).alloc _).alloc _
  have hR2 : w2.ownsRow 0 81 4 (.slice (some ⟨g, 0, none⟩) L.length cap) L.length (nc L) := hw2 ▸ ((hC.row.alloc _).alloc _).alloc _
  have hV2 : w2.ownsRow 0 38 2 r.fv r.nd.fs.length (fcells r.nd.fs) := hw2 ▸ (((hC.frames i r hr).alloc _).alloc _).alloc _
  have hP2 : w2.ownsRow 0 3 1 r.pv r.nd.ps.length (pcells r.nd.ps) := hw2 ▸ (((hC.pops i r hr).alloc _).alloc _).alloc _
  have hs2 : w2.heap.size = w.heap.size + 3 := by rw [hw2]; simp
  rw [← hnn] at hA2
  have CK' := Lib.hid CK
  have hA2' := Lib.hid hA2
  have hf2' := Lib.hid hf2
  have hK2' := Lib.hid hK2
  have hT2' := Lib.hid hT2
  have hR2' := Lib.hid hR2
  have hV2' := Lib.hid hV2
  have hP2' := Lib.hid hP2
  have hc' := Lib.hid hc
  have hl' := Lib.hid hl
  have hw2' := Lib.hid hw2
  have hC' := Lib.hid hC
  have hr' := Lib.hid hr
  have hnn' := Lib.hid hnn
  have hs2' := Lib.hid hs2
  have hfv' := Lib.hid hfv
  clear CK hA2 hK2 hT2 hc hl hw2 hA hB hT hCC hxx hw1 hf2 hR2 hV2 hP2 hC hr hnn hs2 hfv
  go_enter Try.func16, Try.ntmps16
  go_wp2_with fail
  refine CK'.out.mono ?_
  rintro e w' ⟨rfl, rfl⟩
  go_wp2_with fail
  rw [← hw2'.out]
  have p2 : w2.cell? ⟨B, 2, none⟩ = some (.map (some m2)) := hA2'.out.cell 2
  have s0 : w2.cell? ⟨w.heap.size + 2, 0, none⟩ = some (.int .i64 i) := hK2'.out.cell 0
  have s1 : w2.cell? ⟨w.heap.size + 2, 1, none⟩ = some (.int .i64 x) := hK2'.out.cell 1
  have s2 : w2.cell? ⟨w.heap.size + 2, 2, none⟩ = some (.int .i64 y) := hK2'.out.cell 2
  obtain ⟨v0, st, w3, hme, hg3, _, hst⟩ := (hT2'.out.drew).bump law_arr3 Try.underlying73 (by unfold maxLen; omega) hl'.out
  obtain ⟨w4, hes, hT4, hg4⟩ := hst w3 (0 + 1) rfl (wf_fit (by unfold Fit; omega))
  have LK3 := look_behind (hT2'.out.drew) law_arr3 Try.underlying73 hl'.out hme
  rw [hc'.out] at LK3
  have LK : (Instr.lookup 73 (.map (some m2)) (.agg #[.int .i64 i, .int .i64 x, .int .i64 y]) false).run Try.prog w2.drew = .ok (.int .i64 0) w2.drew := by
    have := (hT2'.out.drew).look (Keyed.of_law law_arr3) Try.underlying73 hl'.out
    rw [hc'.out] at this
    exact this
  have hme' : (Instr.mapEntry 73 (.map (some m2)) (.agg #[.int .i64 i, .int .i64 x, .int .i64 y])).run Try.prog w2.drew = .ok (.tuple #[v0, .int .i64 st]) w3 := hme
  have hes' : (Instr.entryStore 73 (.map (some m2)) (.int .i64 st) (.int .i64 1)).run Try.prog w3 = .ok () w4 := hes
  have LK3' : (Instr.lookup 73 (.map (some m2)) (.agg #[.int .i64 i, .int .i64 x, .int .i64 y]) false).run Try.prog w3 = .ok (.int .i64 0) w3 := LK3
  have hT4' := Lib.hid hT4
  have hg4' := Lib.hid hg4
  have hg3' := Lib.hid hg3
  clear hT4 hg4 hg3 hme hes hst LK3
  go_region
  have hs2 := hs2'.out
  have hgm' : w.heap.size + 2 ≠ m2 := by omega
  have hgm'' : w.heap.size ≠ m2 := by omega
  have hA4 : Bk w4 B 77 #[.slice (some ⟨g, 0, none⟩) n cap, .map (some m1), .map (some m2), .map (some m3)] := (Bk.grown (w := w2.drew) hA2'.out hg3'.out (fun e => hBm (Option.some.inj e))).grown hg4'.out (fun e => hBm (Option.some.inj e))
  have hK4 : Bk w4 (w.heap.size + 2) 88 #[.int .i64 i, .int .i64 x, .int .i64 y] := (Bk.grown (w := w2.drew) hK2'.out hg3'.out (fun e => hgm' (Option.some.inj e))).grown hg4'.out (fun e => hgm' (Option.some.inj e))
  have hf4 : Bk w4 w.heap.size 38 #[.int .i64 x, .int .i64 y] := (Bk.grown (w := w2.drew) hf2'.out hg3'.out (fun e => hgm'' (Option.some.inj e))).grown hg4'.out (fun e => hgm'' (Option.some.inj e))
  have hR4 : w4.ownsRow 0 81 4 (.slice (some ⟨g, 0, none⟩) n cap) n (nc L) := by
    have := (World.ownsRow.kept (w := w2.drew) hR2'.out hg3'.out (.inr (tally_ne hT2'.out hR2'.out))).kept hg4'.out (.inr (tally_ne hT2'.out hR2'.out))
    rwa [← hnn'.out] at this
  have hV4 : w4.ownsRow 0 38 2 (.slice ao nf fcap) r.nd.fs.length (fcells r.nd.fs) := by
    have := (World.ownsRow.kept (w := w2.drew) hV2'.out hg3'.out (.inr (tally_ne hT2'.out hV2'.out))).kept hg4'.out (.inr (tally_ne hT2'.out hV2'.out))
    rwa [hfv'.out] at this
  have hP4 : w4.ownsRow 0 3 1 r.pv r.nd.ps.length (pcells r.nd.ps) := (World.ownsRow.kept (w := w2.drew) hP2'.out hg3'.out (.inr (tally_ne hT2'.out hP2'.out))).kept hg4'.out (.inr (tally_ne hT2'.out hP2'.out))
  have hF4 : Far (fun k => k = m2) w w4 := (((hF2.mono (G := fun k => k = m2) (fun _ _ h => h.elim)).drew).grown hg3'.out (fun k _ e => (Option.some.inj e).symm)).grown hg4'.out (fun k _ e => (Option.some.inj e).symm)
  have r2 : w4.cell? ⟨B, 2, none⟩ = some (.map (some m2)) := hA4.cell 2
  have t0 : w4.cell? ⟨w.heap.size + 2, 0, none⟩ = some (.int .i64 i) := hK4.cell 0
  have t1 : w4.cell? ⟨w.heap.size + 2, 1, none⟩ = some (.int .i64 x) := hK4.cell 1
  have t2 : w4.cell? ⟨w.heap.size + 2, 2, none⟩ = some (.int .i64 y) := hK4.cell 2
  have LK4 : ∀ q : Nat, (Instr.lookup 73 (.map (some m2)) (.agg #[.int .i64 i, .int .i64 x, .int .i64 y]) false).run Try.prog (w4.drewN q) = .ok (.int .i64 1) (w4.drewN q) := fun q => by
    have := (hT4'.out.drewN q).look (Keyed.of_law law_arr3) Try.underlying73 hl'.out
    rw [show (Value.agg #[.int .i64 i, .int .i64 x, .int .i64 y]) = tr i x y from rfl] at *
    rw [putAt_same] at this
    exact this
  have hA4' := Lib.hid hA4
  have hK4' := Lib.hid hK4
  have hf4' := Lib.hid hf4
  have hR4' := Lib.hid hR4
  have hV4' := Lib.hid hV4
  have hP4' := Lib.hid hP4
  clear hA4 hK4 hf4 hR4 hV4 hP4 LK LK3' hme' hes' p2 s0 s1 s2 hs2
  go_wp2_with fail
  go_quiet (fail)
  go_wp2_with fail
  obtain ⟨W, hW⟩ : ∃ W, W = w4.drewN nq := ⟨_, rfl⟩
  have hA5 : Bk W B 77 #[.slice (some ⟨g, 0, none⟩) n cap, .map (some m1), .map (some m2), .map (some m3)] := hW ▸ hA4'.out
  have hf5 : Bk W w.heap.size 38 #[.int .i64 x, .int .i64 y] := hW ▸ hf4'.out
  have hR5 : W.ownsRow 0 81 4 (.slice (some ⟨g, 0, none⟩) n cap) n (nc L) := hW ▸ hR4'.out
  have hV5 : W.ownsRow 0 38 2 (.slice ao nf fcap) r.nd.fs.length (fcells r.nd.fs) := hW ▸ hV4'.out
  have hP5 : W.ownsRow 0 3 1 r.pv r.nd.ps.length (pcells r.nd.ps) := hW ▸ hP4'.out
  have hT5 : Tally W 88 m2 (K + 1) (putAt c2 (tr i x y) 1) := hW ▸ hT4'.out
  have hF5 : Far (fun k => k = m2) w W := hW ▸ hF4.drewN nq
  rw [← hW]
  clear LK4 r2 t0 t1 t2
  clear hF4 hW
  have hBl := hA5.lt
  have hfl := hf5.lt
  have hgl5 := (hR5.lt g rfl).2
  obtain ⟨q0, q1, q2, q3⟩ := nc_get hr'.out
  have g2 : W.cell? ⟨g, i * 4 + 2, none⟩ = some (.slice ao nf fcap) := by rw [hR5.cellAt _ (by omega), q2, hfv'.out]
  clear q0 q1 q2 q3
  have p0 : W.cell? ⟨B, 0, none⟩ = some (.slice (some ⟨g, 0, none⟩) n cap) := hA5.cell 0
  have f0 : W.cell? ⟨w.heap.size, 0, none⟩ = some (.int .i64 x) := hf5.cell 0
  have f1 : W.cell? ⟨w.heap.size, 1, none⟩ = some (.int .i64 y) := hf5.cell 1
  have hi1 : (i : Int) < (n : Int) := by omega
  have hVg := row_ne hA5 hV5 ne_sf
  have hVR := rows_ne hR5 hV5 ne_nf
  obtain ⟨inf, hinf, hz0, hz1, hz2⟩ := info_parts info_frame
  have hlong := (hC'.out.long i r hr'.out).1
  have hlong2 := (hC'.out.long i r hr'.out).2
  have A1 : (W.alloc (.cells #[.int .i64 x, .int .i64 y] 38)).drew.ownsRow 0 38 2 (.slice ao nf fcap) r.nd.fs.length (fcells r.nd.fs) := hV5.alloc _
  have A2 : ∀ j u, [Value.int .i64 x, .int .i64 y][j]? = some u → (W.alloc (.cells #[.int .i64 x, .int .i64 y] 38)).drew.cell? ((⟨W.heap.size, 0, none⟩ : Addr).add j) = some u :=
    World.news_of_block (w := (W.alloc (.cells #[.int .i64 x, .int .i64 y] 38)).drew) (cs := #[.int .i64 x, .int .i64 y]) (t := 38) (fr := (0, 0)) (heap_alloc_new W _)
  have A3 : ∀ u ∈ [Value.int .i64 (x : Int), .int .i64 y], u.oneCell' = true := by simp [Value.oneCell']
  have A4 : r.nd.fs.length + 1 ≤ maxLen := by unfold maxLen; omega
  have A5 : (r.nd.fs.length + 1) * 16 ≤ 140737488355328 := by omega
  have A6 : 0 < 1 := Nat.one_pos
  have A7 : 0 < 2 := by decide
  have A1' := Lib.hid A1
  have A2' := Lib.hid A2
  have hA5' := Lib.hid hA5
  have hR5' := Lib.hid hR5
  have hP5' := Lib.hid hP5
  have hT5' := Lib.hid hT5
  have hF5' := Lib.hid hF5
  have hVg' := Lib.hid hVg
  have hVR' := Lib.hid hVR
  clear A1 A2 hA5 hf5 hR5 hV5 hP5 hT5 hF5 hVg hVR hy hnew
  go_region_law (refine step_append_lies _ rfl (.tmp 54) (.tmp 56) 32 rfl 0 38 inf _ 2 16 Try.underlying32 hinf hz0 hz1 hz2 rfl A7 (.slice ao nf fcap) r.nd.fs.length _ rfl A1'.out ⟨W.heap.size, 0, none⟩ 1 1 _ rfl rfl A2'.out A3 A6 A4 A5 (Nat.zero_le _) _ rfl ?_; intro fg fcap' w5 ho5 hg5 hat5 hl5; have hA6 := Bk.grown (w := (W.alloc (.cells #[.int .i64 x, .int .i64 y] 38)).drew) (Bk.alloc hA5'.out _) hg5 (fun e => hVg'.out e.symm); have hR6 := World.ownsRow.kept (w := (W.alloc (.cells #[.int .i64 x, .int .i64 y] 38)).drew) (World.ownsRow.alloc hR5'.out _) hg5 hVR'.out; have u0 := hA6.cell 0; have u1 : w5.frozen? ⟨g, i * 4 + 2, none⟩ = false := hR6.frozenAt _; have u2 : ∃ u, w5.cell? ⟨g, i * 4 + 2, none⟩ = some u := ⟨_, by rw [hR6.cellAt _ (by omega)]; exact (nc_get hr'.out).2.2.1⟩; obtain ⟨u3, u2⟩ := u2; have ho5' := Lib.hid ho5; have hg5' := Lib.hid hg5; have hA6' := Lib.hid hA6; have hR6' := Lib.hid hR6; have hat5' := Lib.hid hat5; clear ho5 hg5 hA6 hR6 hat5; simp at u0)
  all_goals
    obtain ⟨hC6, hfar, hfvb⟩ := push_mid (w := w) (W := W) (w5 := w5) (i := i) (x := x) (y := y) hnn'.out (by rw [hnn'.out]; exact hC'.out) hr'.out hfv'.out hF5'.out hT5'.out hg5'.out ho5'.out hA6'.out hR6'.out hat5'.out
    obtain ⟨W6, hW6⟩ : ∃ W6, W6 = w5.setCell ⟨g, i * 4 + 2, none⟩ (.slice (some ⟨fg, 0, none⟩) (r.nd.fs.length + 1) fcap') := ⟨_, rfl⟩
    rw [← hW6] at hC6 hfar ⊢
    clear hW6 p0 f0 f1 u0 u1 u2 g2
    have hnn2 := hnn'.out
    have hr6 : (L.set i ⟨⟨r.nd.mark, r.nd.place, r.nd.fs ++ [((x : Int), y)], r.nd.ps⟩, (.slice (some ⟨fg, 0, none⟩) (r.nd.fs.length + 1) fcap'), r.pv⟩)[i]? = some ⟨⟨r.nd.mark, r.nd.place, r.nd.fs ++ [((x : Int), y)], r.nd.ps⟩, (.slice (some ⟨fg, 0, none⟩) (r.nd.fs.length + 1) fcap'), r.pv⟩ := by
      rw [List.getElem?_set_self (by omega)]
    have p0 : W6.cell? ⟨B, 0, none⟩ = some (.slice (some ⟨g, 0, none⟩) n cap) := hC6.top.cell 0
    have g3 : W6.cell? ⟨g, i * 4 + 3, none⟩ = some r.pv := by
      have := hC6.row
      rw [List.length_set, ← hnn2] at this
      rw [this.cellAt _ (by omega)]; exact (nc_get hr6).2.2.2
    have hP6 : W6.ownsRow 0 3 1 r.pv r.nd.ps.length (pcells r.nd.ps) := by have := hC6.pops i _ hr6; exact this
    have SF := sofar_int W6 0 r.nd.ps.length r.pv (pcells r.nd.ps) (by omega) hP6 (pcells_one _)
    clear hP6
    have hC6' := Lib.hid hC6
    have hfar' := Lib.hid hfar
    have hfvb' := Lib.hid hfvb
    clear hC6 hfar hfvb hr6 hnn2
    go_wp2_with fail
    refine SF.mono ?_
    rintro e w7 ⟨rfl, ho7, hg7⟩
    have ho7' := Lib.hid ho7
    have hg7' := Lib.hid hg7
    clear ho7 hg7 SF
    go_wp2_with fail
    go_ret3
    refine ⟨_, _, rfl, row_mono ho7'.out hfar'.out.size, ?_, ?_, hfvb'.out, ?_⟩
    · exact (by rw [← hnn'.out]; exact fun h => Nat.lt_irrefl _ (hC6'.out.lt _ h))
    · exact (by rw [← hnn'.out]; exact hC6'.out.kept (grown_far hg7'.out) (fun _ _ e => by cases e))
    · exact (by rw [← hnn'.out]; exact hfar'.out.grown hg7'.out (fun _ _ e => by cases e))
end
end Go.Proofs.Ythpkbeooplpinaa
