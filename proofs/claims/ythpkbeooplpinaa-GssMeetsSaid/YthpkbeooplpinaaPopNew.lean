/-
  Pop at a place that is new.
-/
import Derived.Test.YthpkbeooplpinaaKeep
namespace Go.Proofs.Ythpkbeooplpinaa
open Go.RowKit
open Go.Maps (Keyed)
set_option linter.unusedVariables false
set_option linter.unusedSimpArgs false
theorem row_base {w : World} {base base' : Nat} {e : TypeId} {size : Nat} {v : Value} {n : Nat} {xs : List Value} (h : w.ownsRow base e size v n xs) (hb : base' ≤ base) : w.ownsRow base' e size v n xs := by
  refine ⟨h.1, ?_⟩
  rcases h.2 with h' | ⟨g, cap, cur, h', hbg, r⟩
  · exact .inl h'
  · exact .inr ⟨g, cap, cur, h', Nat.le_trans hb hbg, r⟩
/-- The stack behind the append to a node's pops. -/
theorem pop_mid {w W w5 : World} {B K m1 m2 m3 g cap i nf fcap fg fcap' n : Nat} {ao : Option Addr} {L : List Rw} {c1 c2 c3 : Value → Option Int} {r : Rw} {x : Int} {o : Obj} (hn : n = L.length) (hC : Core w B K m1 m2 m3 (.slice (some ⟨g, 0, none⟩) n cap) L c1 c2 c3) (hr : L[i]? = some r) (hfv : r.pv = .slice ao nf fcap)
    (hF5 : Far (fun k => k = m3) w W) (hT5 : Tally W 70 m3 (K + 1) (putAt c3 (sp i x) 1))
    (hg5 : (W.alloc o).drew.grownBy w5 (Value.slice ao nf fcap).ownBlock) (ho5 : w5.ownsRow 0 3 1 (.slice (some ⟨fg, 0, none⟩) (r.nd.ps.length + 1) fcap') (r.nd.ps.length + 1) (pcells r.nd.ps ++ [.int .i64 x]))
    (hA6 : Bk w5 B 77 #[.slice (some ⟨g, 0, none⟩) n cap, .map (some m1), .map (some m2), .map (some m3)]) (hR6 : w5.ownsRow 0 81 4 (.slice (some ⟨g, 0, none⟩) n cap) n (nc L))
    (hat : (Value.slice ao nf fcap).ownBlock = some fg ∨ fg = (W.alloc o).drew.heap.size) :
    Core (w5.setCell ⟨g, i * 4 + 3, none⟩ (.slice (some ⟨fg, 0, none⟩) (r.nd.ps.length + 1) fcap')) B (K + 1) m1 m2 m3 (.slice (some ⟨g, 0, none⟩) n cap) (L.set i ⟨⟨r.nd.mark, r.nd.place, r.nd.fs, r.nd.ps ++ [x]⟩, r.fv, (.slice (some ⟨fg, 0, none⟩) (r.nd.ps.length + 1) fcap')⟩) c1 c2 (putAt c3 (sp i x) 1) ∧
      Far (fun k => k = m3 ∨ (Value.slice (some ⟨g, 0, none⟩) n cap).ownBlock = some k ∨ r.pv.ownBlock = some k) w (w5.setCell ⟨g, i * 4 + 3, none⟩ (.slice (some ⟨fg, 0, none⟩) (r.nd.ps.length + 1) fcap')) ∧
      ((Value.slice (some ⟨fg, 0, none⟩) (r.nd.ps.length + 1) fcap').ownBlock = r.pv.ownBlock ∨ ∃ g, (Value.slice (some ⟨fg, 0, none⟩) (r.nd.ps.length + 1) fcap').ownBlock = some g ∧ w.heap.size ≤ g) := by
  have hst := World.ownsRow.stored hR6 (i * 4 + 3) (.slice (some ⟨fg, 0, none⟩) (r.nd.ps.length + 1) fcap')
  have hH : (W.alloc o).drew.heap.size = W.heap.size + 1 := by
    show (W.alloc o).heap.size = _
    simp
  have hfar : Far (fun k => k = m3 ∨ (Value.slice (some ⟨g, 0, none⟩) n cap).ownBlock = some k ∨ r.pv.ownBlock = some k) w (w5.setCell ⟨g, i * 4 + 3, none⟩ (.slice (some ⟨fg, 0, none⟩) (r.nd.ps.length + 1) fcap')) :=
    (((hF5.mono (G := fun k => k = m3 ∨ (Value.slice (some ⟨g, 0, none⟩) n cap).ownBlock = some k ∨ r.pv.ownBlock = some k) (fun k _ e => .inl e)).alloc o).drew.grown hg5 (fun k _ e => .inr (.inr (by rw [hfv]; exact e)))).grown hst.2 (fun k _ e => .inr (.inl e))
  have hfvb : (Value.slice (some ⟨fg, 0, none⟩) (r.nd.ps.length + 1) fcap').ownBlock = r.pv.ownBlock ∨ ∃ g, (Value.slice (some ⟨fg, 0, none⟩) (r.nd.ps.length + 1) fcap').ownBlock = some g ∧ w.heap.size ≤ g := by
    rcases hat with e | e
    · left; rw [hfv, e]; rfl
    · right; exact ⟨fg, rfl, by have := hF5.size; omega⟩
  have hgB : g ≠ B := fun e => row_ne hC.top hC.row ne_sn (by rw [← e]; rfl)
  have hgm : g ≠ m3 := fun e => tally_ne hC.t3 hC.row (by rw [← e]; rfl)
  have hgf : g ≠ fg := fun e => by
    rcases rows_ne hR6 ho5 ne_ni with e' | e'
    · cases e'
    · exact e' (by rw [e]; rfl)
  have hT6 : Tally w5 70 m3 (K + 1) (putAt c3 (sp i x) 1) := Tally.kept (w := (W.alloc o).drew) (hT5.alloc o) hg5 fun e => tally_ne hC.t3 (hC.pops i r hr) (by rw [hfv]; exact e.symm)
  refine ⟨hC.popped hr hfar hfvb ?_ ?_ ?_ ?_, hfar, hfvb⟩
  · exact hA6.far (fun e => hgB e.symm) _
  · rw [← hn]; exact hst.1
  · exact ho5.kept hst.2 (.inr (fun e => hgf (Option.some.inj e).symm))
  · exact hT6.set (fun e => hgm e.symm) _
section
set_option maxHeartbeats 2000000
set_option maxRecDepth 100000
theorem pop_new (w : World) (i : Nat) (x : Int) (B K m1 m2 m3 : Nat) (sl : Value) (L : List Rw) (c1 c2 c3 : Value → Option Int) (r : Rw) (hK : K < 1000000) (hC : Core w B K m1 m2 m3 sl L c1 c2 c3)
    (hr : L[i]? = some r) (hy : Fit x) (hnew : x ∉ r.nd.ps) :
    Calls Try.prog 17 #[.pointer (some ⟨B, 0, none⟩), .int .i64 i, .int .i64 x] w fun e w' => ∃ g pv,
      e = .returned (.tuple #[.slice (some ⟨g, 0, none⟩) r.nd.fs.length r.nd.fs.length, .bool true, .int .i64 0]) ∧ w'.ownsRow w.heap.size 38 2 (.slice (some ⟨g, 0, none⟩) r.nd.fs.length r.nd.fs.length) r.nd.fs.length (fcells r.nd.fs) ∧
      ¬ foot B m1 m2 m3 sl (L.set i ⟨⟨r.nd.mark, r.nd.place, r.nd.fs, r.nd.ps ++ [x]⟩, r.fv, pv⟩) g ∧
      Core w' B (K + 1) m1 m2 m3 sl (L.set i ⟨⟨r.nd.mark, r.nd.place, r.nd.fs, r.nd.ps ++ [x]⟩, r.fv, pv⟩) c1 c2 (putAt c3 (sp i x) 1) ∧
      (pv.ownBlock = r.pv.ownBlock ∨ ∃ g, pv.ownBlock = some g ∧ w.heap.size ≤ g) ∧ Far (fun k => k = m3 ∨ sl.ownBlock = some k ∨ r.pv.ownBlock = some k) w w' := by
  have hi : i < L.length := (List.getElem?_eq_some_iff.1 hr).1
  have hn : L.length < 1000000 := Nat.lt_of_le_of_lt hC.many hK
  obtain ⟨n, hnn⟩ : ∃ n, n = L.length := ⟨_, rfl⟩
  rw [← hnn] at hi hn
  obtain ⟨g, cap, hsl, _, hgl⟩ := hC.row.form (by omega)
  subst hsl
  obtain ⟨ao, nf, fcap, hfv⟩ : ∃ ao nf fcap, r.pv = .slice ao nf fcap := by
    rcases row_shape (hC.pops i r hr) with ⟨h, _⟩ | ⟨b, c, h, _⟩
    · exact ⟨none, 0, 0, h⟩
    · exact ⟨_, _, _, h⟩
  have hB := hC.top
  have hT := hC.t3
  have hc : c3 (sp i x) = none := ((hC.told.popped i r.nd (by rw [List.getElem?_map, hr]; rfl) x).2 hnew)
  have hlt := hB.lt
  have hm3 := hT.lt
  have hBm : B ≠ m3 := fun e => hT.notCells (by rw [← e]; exact hB)
  have hgm : g ≠ m3 := fun e => tally_ne hT hC.row (by rw [← e]; rfl)
  obtain ⟨l, hl⟩ := key_arr2 (a := i) (b := x) (by unfold Fit; omega) hy
  obtain ⟨w1, hw1⟩ : ∃ w1, w1 = w.alloc (.cells #[.int .i64 i] 3) := ⟨_, rfl⟩
  have hA : Bk w1 B 77 #[.slice (some ⟨g, 0, none⟩) L.length cap, .map (some m1), .map (some m2), .map (some m3)] := hw1 ▸ hB.alloc _
  have hCC : Bk w1 w.heap.size 3 #[.int .i64 i] := hw1 ▸ Bk.new rfl
  have CK := check_ok (fun _ => (i : Int)) 1 w.heap.size 0 1 B m1 (some ⟨g, 0, none⟩) L.length cap w1 (by omega) (by omega) (hA.cell 0) (hA.cell 1) (fun k hk => by
    have : k = 0 := by omega
    subst this
    exact hCC.cell 0) (fun k _ => by simp; omega)
  rw [hw1] at CK
  -- the world behind the key's variable
  obtain ⟨w2, hw2⟩ : ∃ w2, w2 = (w.alloc (.cells #[.int .i64 i] 3)).alloc (.cells #[.int .i64 i, .int .i64 x] 70) := ⟨_, rfl⟩
  have hA2 : Bk w2 B 77 #[.slice (some ⟨g, 0, none⟩) L.length cap, .map (some m1), .map (some m2), .map (some m3)] := hw2 ▸ (hB.alloc _).alloc _
  have hK2 : Bk w2 (w.heap.size + 1) 70 #[.int .i64 i, .int .i64 x] := hw2 ▸ Bk.new (by simp)
  have hT2 : Tally w2 70 m3 K c3 := hw2 ▸ (hT.alloc _).alloc _
  have hF2 : Far (fun _ => False) w w2 := hw2 ▸ ((Far.refl _ w).alloc _).alloc _
  have hR2 : w2.ownsRow 0 81 4 (.slice (some ⟨g, 0, none⟩) L.length cap) L.length (nc L) := hw2 ▸ (hC.row.alloc _).alloc _
  have hV2 : w2.ownsRow 0 3 1 r.pv r.nd.ps.length (pcells r.nd.ps) := hw2 ▸ ((hC.pops i r hr).alloc _).alloc _
  have hP2 : w2.ownsRow 0 38 2 r.fv r.nd.fs.length (fcells r.nd.fs) := hw2 ▸ ((hC.frames i r hr).alloc _).alloc _
  have hs2 : w2.heap.size = w.heap.size + 2 := by rw [hw2]; simp
  rw [← hnn] at hA2
  have CK' := Lib.hid CK
  have hA2' := Lib.hid hA2
  have hK2' := Lib.hid hK2
  have hT2' := Lib.hid hT2
  have hR2' := Lib.hid hR2
  have hV2' := Lib.hid hV2
  have hP2' := Lib.hid hP2
  have hc' := Lib.hid hc
  have hl' := Lib.hid hl
  have hw2' := Lib.hid hw2
  have hC' := Lib.hid hC
  have hr' := Lib.hid hr
  have hnn' := Lib.hid hnn
  have hs2' := Lib.hid hs2
  have hfv' := Lib.hid hfv
  clear CK hA2 hK2 hT2 hc hl hw2 hA hB hT hCC hw1 hR2 hV2 hP2 hC hr hnn hs2 hfv
  go_enter Try.func17, Try.ntmps17
  go_wp2_with fail
  refine CK'.out.mono ?_
  rintro e w' ⟨rfl, rfl⟩
  go_wp2_with fail
  rw [← hw2'.out]
  have p2 : w2.cell? ⟨B, 3, none⟩ = some (.map (some m3)) := hA2'.out.cell 3
  have s0 : w2.cell? ⟨w.heap.size + 1, 0, none⟩ = some (.int .i64 i) := hK2'.out.cell 0
  have s1 : w2.cell? ⟨w.heap.size + 1, 1, none⟩ = some (.int .i64 x) := hK2'.out.cell 1
  obtain ⟨v0, st, w3, hme, hg3, _, hst⟩ := (hT2'.out.drew).bump law_arr2 Try.underlying74 (by unfold maxLen; omega) hl'.out
  obtain ⟨w4, hes, hT4, hg4⟩ := hst w3 (0 + 1) rfl (wf_fit (by unfold Fit; omega))
  have LK3 := look_behind (hT2'.out.drew) law_arr2 Try.underlying74 hl'.out hme
  rw [hc'.out] at LK3
  have LK : (Instr.lookup 74 (.map (some m3)) (.agg #[.int .i64 i, .int .i64 x]) false).run Try.prog w2.drew = .ok (.int .i64 0) w2.drew := by
    have := (hT2'.out.drew).look (Keyed.of_law law_arr2) Try.underlying74 hl'.out
    rw [hc'.out] at this
    exact this
  have hme' : (Instr.mapEntry 74 (.map (some m3)) (.agg #[.int .i64 i, .int .i64 x])).run Try.prog w2.drew = .ok (.tuple #[v0, .int .i64 st]) w3 := hme
  have hes' : (Instr.entryStore 74 (.map (some m3)) (.int .i64 st) (.int .i64 1)).run Try.prog w3 = .ok () w4 := hes
  have LK3' : (Instr.lookup 74 (.map (some m3)) (.agg #[.int .i64 i, .int .i64 x]) false).run Try.prog w3 = .ok (.int .i64 0) w3 := LK3
  have hT4' := Lib.hid hT4
  have hg4' := Lib.hid hg4
  have hg3' := Lib.hid hg3
  clear hT4 hg4 hg3 hme hes hst LK3
  go_region
  have hs2 := hs2'.out
  have hgm' : w.heap.size + 1 ≠ m3 := by omega
  have hA4 : Bk w4 B 77 #[.slice (some ⟨g, 0, none⟩) n cap, .map (some m1), .map (some m2), .map (some m3)] := (Bk.grown (w := w2.drew) hA2'.out hg3'.out (fun e => hBm (Option.some.inj e))).grown hg4'.out (fun e => hBm (Option.some.inj e))
  have hK4 : Bk w4 (w.heap.size + 1) 70 #[.int .i64 i, .int .i64 x] := (Bk.grown (w := w2.drew) hK2'.out hg3'.out (fun e => hgm' (Option.some.inj e))).grown hg4'.out (fun e => hgm' (Option.some.inj e))
  have hR4 : w4.ownsRow 0 81 4 (.slice (some ⟨g, 0, none⟩) n cap) n (nc L) := by
    have := (World.ownsRow.kept (w := w2.drew) hR2'.out hg3'.out (.inr (tally_ne hT2'.out hR2'.out))).kept hg4'.out (.inr (tally_ne hT2'.out hR2'.out))
    rwa [← hnn'.out] at this
  have hV4 : w4.ownsRow 0 3 1 (.slice ao nf fcap) r.nd.ps.length (pcells r.nd.ps) := by
    have := (World.ownsRow.kept (w := w2.drew) hV2'.out hg3'.out (.inr (tally_ne hT2'.out hV2'.out))).kept hg4'.out (.inr (tally_ne hT2'.out hV2'.out))
    rwa [hfv'.out] at this
  have hP4 : w4.ownsRow 0 38 2 r.fv r.nd.fs.length (fcells r.nd.fs) := (World.ownsRow.kept (w := w2.drew) hP2'.out hg3'.out (.inr (tally_ne hT2'.out hP2'.out))).kept hg4'.out (.inr (tally_ne hT2'.out hP2'.out))
  have hF4 : Far (fun k => k = m3) w w4 := (((hF2.mono (G := fun k => k = m3) (fun _ _ h => h.elim)).drew).grown hg3'.out (fun k _ e => (Option.some.inj e).symm)).grown hg4'.out (fun k _ e => (Option.some.inj e).symm)
  have r2 : w4.cell? ⟨B, 3, none⟩ = some (.map (some m3)) := hA4.cell 3
  have t0 : w4.cell? ⟨w.heap.size + 1, 0, none⟩ = some (.int .i64 i) := hK4.cell 0
  have t1 : w4.cell? ⟨w.heap.size + 1, 1, none⟩ = some (.int .i64 x) := hK4.cell 1
  have LK4 : ∀ q : Nat, (Instr.lookup 74 (.map (some m3)) (.agg #[.int .i64 i, .int .i64 x]) false).run Try.prog (w4.drewN q) = .ok (.int .i64 1) (w4.drewN q) := fun q => by
    have := (hT4'.out.drewN q).look (Keyed.of_law law_arr2) Try.underlying74 hl'.out
    rw [show (Value.agg #[.int .i64 i, .int .i64 x]) = sp i x from rfl] at *
    rw [putAt_same] at this
    exact this
  have hA4' := Lib.hid hA4
  have hK4' := Lib.hid hK4
  have hR4' := Lib.hid hR4
  have hV4' := Lib.hid hV4
  have hP4' := Lib.hid hP4
  clear hA4 hK4 hR4 hV4 hP4 LK LK3' hme' hes' p2 s0 s1 hs2
  go_wp2_with fail
  go_quiet (fail)
  go_wp2_with fail
  obtain ⟨W, hW⟩ : ∃ W, W = w4.drewN nq := ⟨_, rfl⟩
  have hA5 : Bk W B 77 #[.slice (some ⟨g, 0, none⟩) n cap, .map (some m1), .map (some m2), .map (some m3)] := hW ▸ hA4'.out
  have hR5 : W.ownsRow 0 81 4 (.slice (some ⟨g, 0, none⟩) n cap) n (nc L) := hW ▸ hR4'.out
  have hV5 : W.ownsRow 0 3 1 (.slice ao nf fcap) r.nd.ps.length (pcells r.nd.ps) := hW ▸ hV4'.out
  have hP5 : W.ownsRow 0 38 2 r.fv r.nd.fs.length (fcells r.nd.fs) := hW ▸ hP4'.out
  have hT5 : Tally W 70 m3 (K + 1) (putAt c3 (sp i x) 1) := hW ▸ hT4'.out
  have hF5 : Far (fun k => k = m3) w W := hW ▸ hF4.drewN nq
  rw [← hW]
  clear LK4 r2 t0 t1
  clear hF4 hW
  have hBl := hA5.lt
  have hgl5 := (hR5.lt g rfl).2
  obtain ⟨q0, q1, q2, q3⟩ := nc_get hr'.out
  have g2 : W.cell? ⟨g, i * 4 + 3, none⟩ = some (.slice ao nf fcap) := by rw [hR5.cellAt _ (by omega), q3, hfv'.out]
  clear q0 q1 q2 q3
  have p0 : W.cell? ⟨B, 0, none⟩ = some (.slice (some ⟨g, 0, none⟩) n cap) := hA5.cell 0
  have hi1 : (i : Int) < (n : Int) := by omega
  have hVg := row_ne hA5 hV5 ne_si
  have hVR := rows_ne hR5 hV5 ne_ni
  obtain ⟨inf, hinf, hz0, hz1, hz2⟩ := info_parts info_int
  have hlong := (hC'.out.long i r hr'.out).1
  have hlong2 := (hC'.out.long i r hr'.out).2
  have A1 : (W.alloc (.cells #[.int .i64 x] 3)).drew.ownsRow 0 3 1 (.slice ao nf fcap) r.nd.ps.length (pcells r.nd.ps) := hV5.alloc _
  have A2 : ∀ j u, [Value.int .i64 x][j]? = some u → (W.alloc (.cells #[.int .i64 x] 3)).drew.cell? ((⟨W.heap.size, 0, none⟩ : Addr).add j) = some u :=
    World.news_of_block (w := (W.alloc (.cells #[.int .i64 x] 3)).drew) (cs := #[.int .i64 x]) (t := 3) (fr := (0, 0)) (heap_alloc_new W _)
  have A3 : ∀ u ∈ [Value.int .i64 x], u.oneCell' = true := by simp [Value.oneCell']
  have A4 : r.nd.ps.length + 1 ≤ maxLen := by unfold maxLen; omega
  have A5 : (r.nd.ps.length + 1) * 8 ≤ 140737488355328 := by omega
  have A6 : 0 < 1 := Nat.one_pos
  have A7 : 0 < 1 := Nat.one_pos
  have A1' := Lib.hid A1
  have A2' := Lib.hid A2
  have hA5' := Lib.hid hA5
  have hR5' := Lib.hid hR5
  have hP5' := Lib.hid hP5
  have hT5' := Lib.hid hT5
  have hF5' := Lib.hid hF5
  have hVg' := Lib.hid hVg
  have hVR' := Lib.hid hVR
  clear A1 A2 hA5 hR5 hV5 hP5 hT5 hF5 hVg hVR hy hnew
  go_region_law (refine step_append_lies _ rfl (.tmp 49) (.tmp 51) 33 rfl 0 3 inf _ 1 8 Try.underlying33 hinf hz0 hz1 hz2 rfl A7 (.slice ao nf fcap) r.nd.ps.length _ rfl A1'.out ⟨W.heap.size, 0, none⟩ 1 1 _ rfl rfl A2'.out A3 A6 A4 A5 (Nat.zero_le _) _ rfl ?_; intro fg fcap' w5 ho5 hg5 hat5 hl5; have hA6 := Bk.grown (w := (W.alloc (.cells #[.int .i64 x] 3)).drew) (Bk.alloc hA5'.out _) hg5 (fun e => hVg'.out e.symm); have hR6 := World.ownsRow.kept (w := (W.alloc (.cells #[.int .i64 x] 3)).drew) (World.ownsRow.alloc hR5'.out _) hg5 hVR'.out; have u0 := hA6.cell 0; have u1 : w5.frozen? ⟨g, i * 4 + 3, none⟩ = false := hR6.frozenAt _; have u2 : ∃ u, w5.cell? ⟨g, i * 4 + 3, none⟩ = some u := ⟨_, by rw [hR6.cellAt _ (by omega)]; exact (nc_get hr'.out).2.2.2⟩; obtain ⟨u3, u2⟩ := u2; have ho5' := Lib.hid ho5; have hg5' := Lib.hid hg5; have hA6' := Lib.hid hA6; have hR6' := Lib.hid hR6; have hat5' := Lib.hid hat5; clear ho5 hg5 hA6 hR6 hat5; simp at u0)
  all_goals
    obtain ⟨hC6, hfar, hfvb⟩ := pop_mid (w := w) (W := W) (w5 := w5) (i := i) (x := x) hnn'.out (by rw [hnn'.out]; exact hC'.out) hr'.out hfv'.out hF5'.out hT5'.out hg5'.out ho5'.out hA6'.out hR6'.out hat5'.out
    obtain ⟨W6, hW6⟩ : ∃ W6, W6 = w5.setCell ⟨g, i * 4 + 3, none⟩ (.slice (some ⟨fg, 0, none⟩) (r.nd.ps.length + 1) fcap') := ⟨_, rfl⟩
    rw [← hW6] at hC6 hfar ⊢
    clear hW6 p0 u0 u1 u2 g2
    have hnn2 := hnn'.out
    have hr6 : (L.set i ⟨⟨r.nd.mark, r.nd.place, r.nd.fs, r.nd.ps ++ [x]⟩, r.fv, (.slice (some ⟨fg, 0, none⟩) (r.nd.ps.length + 1) fcap')⟩)[i]? = some ⟨⟨r.nd.mark, r.nd.place, r.nd.fs, r.nd.ps ++ [x]⟩, r.fv, (.slice (some ⟨fg, 0, none⟩) (r.nd.ps.length + 1) fcap')⟩ := by
      rw [List.getElem?_set_self (by omega)]
    have p0 : W6.cell? ⟨B, 0, none⟩ = some (.slice (some ⟨g, 0, none⟩) n cap) := hC6.top.cell 0
    have g3 : W6.cell? ⟨g, i * 4 + 2, none⟩ = some r.fv := by
      have := hC6.row
      rw [List.length_set, ← hnn2] at this
      rw [this.cellAt _ (by omega)]; exact (nc_get hr6).2.2.1
    have hP6 : W6.ownsRow 0 38 2 r.fv r.nd.fs.length (fcells r.nd.fs) := by have := hC6.frames i _ hr6; exact this
    have SF := sofar_frame W6 0 r.nd.fs.length r.fv (fcells r.nd.fs) (by omega) hP6 (fcells_one _)
    clear hP6
    have hC6' := Lib.hid hC6
    have hfar' := Lib.hid hfar
    have hfvb' := Lib.hid hfvb
    clear hC6 hfar hfvb hr6 hnn2
    go_wp2_with fail
    refine SF.mono ?_
    rintro e w7 ⟨rfl, ho7, hg7⟩
    have ho7' := Lib.hid ho7
    have hg7' := Lib.hid hg7
    clear ho7 hg7 SF
    go_wp2_with fail
    go_ret3
    refine ⟨_, _, rfl, row_base ho7'.out hfar'.out.size, ?_, ?_, hfvb'.out, ?_⟩
    · exact (by rw [← hnn'.out]; exact fun h => Nat.lt_irrefl _ (hC6'.out.lt _ h))
    · exact (by rw [← hnn'.out]; exact hC6'.out.kept (grown_far hg7'.out) (fun _ _ e => by cases e))
    · exact (by rw [← hnn'.out]; exact hfar'.out.grown hg7'.out (fun _ _ e => by cases e))
end
end Go.Proofs.Ythpkbeooplpinaa
