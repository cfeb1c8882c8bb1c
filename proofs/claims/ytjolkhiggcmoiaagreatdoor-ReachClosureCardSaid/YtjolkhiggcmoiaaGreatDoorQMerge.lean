/-
  The document's merge of two rising lists of cells.
-/
import Derived.Test.YtjolkhiggcmoiaaGreatDoorQRef
namespace Go.Proofs.YtjolkhiggcmoiaaGreatDoor
open Go.RowKit Go.Shelf
set_option linter.unusedVariables false
set_option linter.unusedSimpArgs false
theorem atS {l : List (Nat × Nat)} {k : Nat} (h : k < l.length) : ∃ x, l[k]? = some x := ⟨l[k], List.getElem?_eq_getElem h⟩
/-- A list of cells in memory. -/
def PL (w : World) (ao : Option Addr) (l : List (Nat × Nat)) : Prop := Cls w ao l.length (fun k => ((l.getD k (0, 0)).1 : Nat)) (fun k => ((l.getD k (0, 0)).2 : Nat))
theorem PL.move {w w' : World} {ao : Option Addr} {l : List (Nat × Nat)} (h : PL w ao l) (hf : Far (fun _ => False) w w') : PL w' ao l := Cls.move h hf
theorem PL.at {w : World} {ao : Option Addr} {l : List (Nat × Nat)} (h : PL w ao l) {k x y : Nat} (hk : l[k]? = some (x, y)) : ∃ g off, ao = some ⟨g, off, none⟩ ∧ g < w.heap.size ∧ w.cell? ⟨g, off + k * 2, none⟩ = some (.int .i64 (x : Nat)) ∧ w.cell? ⟨g, off + k * 2 + 1, none⟩ = some (.int .i64 (y : Nat)) := by
  have hl := (List.getElem?_eq_some_iff.1 hk).1
  obtain ⟨g, off, h1, h3, h2⟩ := h (by omega)
  obtain ⟨c0, c1⟩ := h2 k hl
  have e : l.getD k (0, 0) = (x, y) := by rw [List.getD_eq_getElem?_getD, hk]; rfl
  dsimp only at c0 c1
  rw [e] at c0 c1
  exact ⟨g, off, h1, h3, c0, c1⟩
theorem PL.own {w : World} {base n cap : Nat} {ao : Option Addr} {L : List (Nat × Nat)} (h : w.ownsRow base 71 2 (.slice ao n cap) n (ccells L)) (hn : n = L.length) : PL w ao L := by
  have := cls_own h hn
  subst hn
  exact this
section
set_option maxHeartbeats 16000000
set_option maxRecDepth 100000
theorem merge_any (la lb : List (Nat × Nat)) (hla : la.Pairwise lexLt) (hlb : lb.Pairwise lexLt) (na nb : Nat) (hna : na = la.length) (hnb : nb = lb.length) (hsz : na + nb ≤ 4194304) (ao bo : Option Addr) (ca cb : Nat) (w : World) (hA : PL w ao la) (hB : PL w bo lb) :
    Calls Tryz.prog 95 #[.slice ao na ca, .slice bo nb cb] w fun e w' => ∃ v mo, e = .returned (.tuple #[v, .bool mo]) ∧ ∃ o : List (Nat × Nat), w'.ownsRow w.heap.size 71 2 v o.length (ccells o) ∧ o.Pairwise lexLt ∧ (∀ x, x ∈ o ↔ x ∈ la ∨ x ∈ lb) ∧ (mo = true ↔ ∃ x, x ∈ lb ∧ ¬ x ∈ la) ∧ o.length ≤ na + nb ∧ Far (fun _ => False) w w' := by
  have hA' := Lib.hid hA
  have hB' := Lib.hid hB
  have hna' := Lib.hid hna
  have hnb' := Lib.hid hnb
  clear hA hB hna hnb
  go_enter Tryz.func95, Tryz.ntmps95
  go_wp2_with fail
  go_loopw [6, 7, 8, 9] (fun ov mv iv jv wr => ∃ (i j : Nat) (o : List (Nat × Nat)) (mo : Bool), i ≤ na ∧ j ≤ nb ∧ iv = .int .i64 (i : Nat) ∧ jv = .int .i64 (j : Nat) ∧ mv = .bool mo ∧ MI la lb o i j mo ∧ wr.ownsRow w.heap.size 71 2 ov o.length (ccells o) ∧ Far (fun _ => False) w wr) (fun _ _ iv jv _ => (na - (intOf iv).toNat) + (nb - (intOf jv).toNat))
  case atStart => exact ⟨0, 0, [], false, Nat.zero_le _, Nat.zero_le _, rfl, rfl, rfl, MI.start, World.ownsRow_nil _ _ _ _, Far.refl _ _⟩
  case round =>
    obtain ⟨i, j, o, mo, hi, hj, rfl, rfl, rfl, hM, hown, hf⟩ := hrel
    obtain ⟨oo, oc, rfl⟩ := q_form hown
    obtain ⟨n, hn⟩ : ∃ n, n = o.length := ⟨_, rfl⟩
    have hnb2 : n ≤ i + j := by rw [hn]; exact hM.len
    rw [← hn] at hown ⊢
    have hn' := Lib.hid hn
    have hM' := Lib.hid hM
    have hown' := Lib.hid hown
    have hf' := Lib.hid hf
    have hPA := hA'.out.move hf
    have hPB := hB'.out.move hf
    clear hn hM hown hf
    obtain ⟨wi, hwi⟩ : ∃ wi, wi = wr := ⟨_, rfl⟩
    rw [← hwi] at hown' hf' hPA hPB ⊢
    clear hwi
    by_cases hlt : i < na
    · have hii : (i : Int) < (na : Int) := by omega
      obtain ⟨⟨a1, a2⟩, hxa⟩ := atS (l := la) (k := i) (by rw [← hna'.out]; exact hlt)
      obtain ⟨ga, oa, rfl, la0, pa0, pa1⟩ := hPA.at hxa
      have hxaH := Lib.hid hxa
      clear hxa hPA
      by_cases hjt : j < nb
      · have hjj : (j : Int) < (nb : Int) := by omega
        have hje : ¬ (j : Int) = (nb : Int) := by omega
        have dje : decide ((j : Int) = (nb : Int)) = false := decide_eq_false hje
        have dje2 : ((j : Int) == (nb : Int)) = false := by simpa using hje
        have dii : decide ((i : Int) < (na : Int)) = true := decide_eq_true hii
        have djj : decide ((j : Int) < (nb : Int)) = true := decide_eq_true hjj
        obtain ⟨⟨b1, b2⟩, hxb⟩ := atS (l := lb) (k := j) (by rw [← hnb'.out]; exact hjt)
        obtain ⟨gb, ob, rfl, lb0, pb0, pb1⟩ := hPB.at hxb
        have hxbH := Lib.hid hxb
        clear hxb hPB
        have BF := Lib.hid (fun w => before_any a1 a2 b1 b2 w)
        obtain ⟨q, hq⟩ : ∃ q, decide (lexLt (a1, a2) (b1, b2)) = q := ⟨_, rfl⟩
        rw [hq] at BF
        have hq' := Lib.hid hq
        clear hq
        have HK := Lib.hid (show ∀ w2, Far (fun _ => False) wi w2 → w2.cell? ⟨ga, oa + i * 2, none⟩ = some (.int .i64 (a1 : Nat)) ∧ w2.cell? ⟨ga, oa + i * 2 + 1, none⟩ = some (.int .i64 (a2 : Nat)) ∧ w2.cell? ⟨gb, ob + j * 2, none⟩ = some (.int .i64 (b1 : Nat)) ∧ w2.cell? ⟨gb, ob + j * 2 + 1, none⟩ = some (.int .i64 (b2 : Nat)) from fun w2 hf => ⟨(cell_eq (hf.block ga la0 id)).trans pa0, (cell_eq (hf.block ga la0 id)).trans pa1, (cell_eq (hf.block gb lb0 id)).trans pb0, (cell_eq (hf.block gb lb0 id)).trans pb1⟩)
        go_upto_region 5 with fail
        go_cut [40] (fun tv wc => tv = .bool q ∧ Far (fun _ => False) wi wc)
        case first =>
          go_region_held3 (fun w' => w'.cell? ⟨ga, oa + i * 2, none⟩ = some (.int .i64 (a1 : Nat)) ∧ w'.cell? ⟨ga, oa + i * 2 + 1, none⟩ = some (.int .i64 (a2 : Nat)) ∧ w'.cell? ⟨gb, ob + j * 2, none⟩ = some (.int .i64 (b1 : Nat)) ∧ w'.cell? ⟨gb, ob + j * 2 + 1, none⟩ = some (.int .i64 (b2 : Nat))) (go_keep)
            (first
              | (go_at_call 118; refine (BF.out _).mono ?_; rintro e w9 ⟨rfl, hf9⟩; obtain ⟨r0, r1, r2, r3⟩ := HK.out w9 (((Far.refl _ wi).drew).then hf9); have hf9' := Lib.hid (((Far.refl _ wi).drew).then hf9); clear hf9))
          all_goals
            go_wp2_with fail
            go_meet
            exact ⟨rfl, hf9'.out⟩
        case rest =>
          obtain ⟨rfl, hfc⟩ := hcut
          obtain ⟨r0, r1, r2, r3⟩ := HK.out wc hfc
          have hfcH := Lib.hid hfc
          clear pa0 pa1 pb0 pb1 hfc dje dje2
          cases q with
          | true =>
            obtain ⟨wd, hwd⟩ : ∃ wd, wd = wc := ⟨_, rfl⟩
            rw [← hwd] at r0 r1 r2 r3 hfcH ⊢
            have hfd' := Lib.hid (hf'.out.then hfcH.out)
            have hownd' := Lib.hid (row_same hown'.out fun k hk hl => hfcH.out.block k hl id)
            have hstep := Lib.hid (hM'.out.left hla hlb hxaH.out fun y hy => by rw [hxbH.out] at hy; cases hy; exact of_decide_eq_true hq'.out)
            clear hwd
            obtain ⟨ci, hci, hz0, hz1, hz2⟩ := info_parts cellInfo
            have C1 := Lib.hid (World.ownsRow.alloc hownd'.out (.cells #[.int .i64 (a1 : Nat), .int .i64 (a2 : Nat)] 71))
            have C7 := Lib.hid (World.news_of_block (w := wd.alloc (.cells #[.int .i64 (a1 : Nat), .int .i64 (a2 : Nat)] 71)) (cs := #[.int .i64 (a1 : Nat), .int .i64 (a2 : Nat)]) (t := 71) (fr := (0, 0)) (heap_alloc_new wd _))
            have C3 := Lib.hid (show ∀ u ∈ [(.int .i64 (a1 : Nat) : Value), .int .i64 (a2 : Nat)], u.oneCell' = true by simp [Value.oneCell'])
            have C4 : n + 1 ≤ maxLen := by unfold maxLen; omega
            have C5 : (n + 1) * 16 ≤ 140737488355328 := by omega
            have C6 : w.heap.size ≤ (wd.alloc (.cells #[.int .i64 (a1 : Nat), .int .i64 (a2 : Nat)] 71)).heap.size := by have := hfd'.out.size; simp; omega
            go_wp2_with (at_builtin; refine wpList_append_own _ rfl _ _ 22 rfl w.heap.size 71 ci _ 2 16 Tryz.underlying22 hci hz0 hz1 hz2 rfl (by decide) (.slice oo n oc) n _ rfl C1.out ⟨wd.heap.size, 0, none⟩ 1 1 [.int .i64 (a1 : Nat), .int .i64 (a2 : Nat)] rfl rfl C7.out C3.out C4 C5 C6 ?_; intro v2 w6 ho6 hg6 hn6; have ho6' := Lib.hid ho6; have hg6' := Lib.hid hg6; clear ho6 hg6 hn6)
            have fa := Lib.hid ((hfd'.out.alloc _).trans (grown_F hg6'.out) fun q hq e => by have := (own_type hown'.out e).1; omega : Far (fun _ => False) w w6)
            have ho7 := Lib.hid (show w6.ownsRow w.heap.size 71 2 v2 (o ++ [(a1, a2)]).length (ccells (o ++ [(a1, a2)])) by
              have := ho6'.out
              rw [← ccells_app _ (a1, a2)] at this
              rw [List.length_append, List.length_singleton, ← hn'.out]
              exact this)
            go_roundw
            case rel => exact ⟨i + 1, j, o ++ [(a1, a2)], mo, by omega, by omega, by go_num, by go_num, rfl, hstep.out, ho7.out, fa.out⟩
            case measure => simp [intOf]; omega
          | false =>
            by_cases hE : a1 = b1 ∧ a2 = b2
            · obtain ⟨rfl, rfl⟩ := hE
              have hstep := Lib.hid (hM'.out.both hla hlb hxaH.out hxbH.out)
              go_wp2_with fail
              go_quiet (fail)
              obtain ⟨wd, hwd⟩ : ∃ wd, wd = wc.drewN nq := ⟨_, rfl⟩
              have hfd : Far (fun _ => False) wi (wc.drewN nq) := (hfcH.out).drewN nq
              rw [← hwd] at hfd ⊢
              have hfd' := Lib.hid (hf'.out.then hfd)
              have hownd' := Lib.hid (row_same hown'.out fun k hk hl => hfd.block k hl id)
              obtain ⟨s0, s1, s2, s3⟩ := HK.out wd hfd
              clear r0 r1 r2 r3
              clear hwd hfd
              obtain ⟨ci, hci, hz0, hz1, hz2⟩ := info_parts cellInfo
              have C1 := Lib.hid (World.ownsRow.alloc hownd'.out (.cells #[.int .i64 (a1 : Nat), .int .i64 (a2 : Nat)] 71))
              have C7 := Lib.hid (World.news_of_block (w := wd.alloc (.cells #[.int .i64 (a1 : Nat), .int .i64 (a2 : Nat)] 71)) (cs := #[.int .i64 (a1 : Nat), .int .i64 (a2 : Nat)]) (t := 71) (fr := (0, 0)) (heap_alloc_new wd _))
              have C3 := Lib.hid (show ∀ u ∈ [(.int .i64 (a1 : Nat) : Value), .int .i64 (a2 : Nat)], u.oneCell' = true by simp [Value.oneCell'])
              have C4 : n + 1 ≤ maxLen := by unfold maxLen; omega
              have C5 : (n + 1) * 16 ≤ 140737488355328 := by omega
              have C6 : w.heap.size ≤ (wd.alloc (.cells #[.int .i64 (a1 : Nat), .int .i64 (a2 : Nat)] 71)).heap.size := by have := hfd'.out.size; simp; omega
              go_wp2_with (at_builtin; refine wpList_append_own _ rfl _ _ 22 rfl w.heap.size 71 ci _ 2 16 Tryz.underlying22 hci hz0 hz1 hz2 rfl (by decide) (.slice oo n oc) n _ rfl C1.out ⟨wd.heap.size, 0, none⟩ 1 1 [.int .i64 (a1 : Nat), .int .i64 (a2 : Nat)] rfl rfl C7.out C3.out C4 C5 C6 ?_; intro v2 w6 ho6 hg6 hn6; have ho6' := Lib.hid ho6; have hg6' := Lib.hid hg6; clear ho6 hg6 hn6)
              have fa := Lib.hid ((hfd'.out.alloc _).trans (grown_F hg6'.out) fun q hq e => by have := (own_type hown'.out e).1; omega : Far (fun _ => False) w w6)
              have ho7 := Lib.hid (show w6.ownsRow w.heap.size 71 2 v2 (o ++ [(a1, a2)]).length (ccells (o ++ [(a1, a2)])) by
                have := ho6'.out
                rw [← ccells_app _ (a1, a2)] at this
                rw [List.length_append, List.length_singleton, ← hn'.out]
                exact this)
              go_roundw
              case rel => exact ⟨i + 1, j + 1, o ++ [(a1, a2)], mo, by omega, by omega, by go_num, by go_num, rfl, hstep.out, ho7.out, fa.out⟩
              case measure => simp [intOf]; omega
            · have hgt : lexLt (b1, b2) (a1, a2) := (lex_tri (a1, a2) (b1, b2)).elim (fun h => absurd h (of_decide_eq_false hq'.out)) fun h => h.elim (fun h => absurd (Prod.mk.inj h) hE) id
              have hstep := Lib.hid (hM'.out.right hla hlb hxbH.out fun y hy => by rw [hxaH.out] at hy; cases hy; exact hgt)
              clear hgt
              by_cases h1 : a1 = b1
              · subst h1
                have h2 : ¬ (a2 : Int) = (b2 : Int) := by intro e; exact hE ⟨rfl, by omega⟩
                clear hE
                go_wp2_with fail
                go_quiet (fail)
                obtain ⟨wd, hwd⟩ : ∃ wd, wd = wc.drewN nq := ⟨_, rfl⟩
                have hfd : Far (fun _ => False) wi (wc.drewN nq) := (hfcH.out).drewN nq
                rw [← hwd] at hfd ⊢
                have hfd' := Lib.hid (hf'.out.then hfd)
                have hownd' := Lib.hid (row_same hown'.out fun k hk hl => hfd.block k hl id)
                obtain ⟨s0, s1, s2, s3⟩ := HK.out wd hfd
                clear r0 r1 r2 r3
                clear hwd hfd
                obtain ⟨ci, hci, hz0, hz1, hz2⟩ := info_parts cellInfo
                have C1 := Lib.hid (World.ownsRow.alloc hownd'.out (.cells #[.int .i64 (a1 : Nat), .int .i64 (b2 : Nat)] 71))
                have C7 := Lib.hid (World.news_of_block (w := wd.alloc (.cells #[.int .i64 (a1 : Nat), .int .i64 (b2 : Nat)] 71)) (cs := #[.int .i64 (a1 : Nat), .int .i64 (b2 : Nat)]) (t := 71) (fr := (0, 0)) (heap_alloc_new wd _))
                have C3 := Lib.hid (show ∀ u ∈ [(.int .i64 (a1 : Nat) : Value), .int .i64 (b2 : Nat)], u.oneCell' = true by simp [Value.oneCell'])
                have C4 : n + 1 ≤ maxLen := by unfold maxLen; omega
                have C5 : (n + 1) * 16 ≤ 140737488355328 := by omega
                have C6 : w.heap.size ≤ (wd.alloc (.cells #[.int .i64 (a1 : Nat), .int .i64 (b2 : Nat)] 71)).heap.size := by have := hfd'.out.size; simp; omega
                go_wp2_with (at_builtin; refine wpList_append_own _ rfl _ _ 22 rfl w.heap.size 71 ci _ 2 16 Tryz.underlying22 hci hz0 hz1 hz2 rfl (by decide) (.slice oo n oc) n _ rfl C1.out ⟨wd.heap.size, 0, none⟩ 1 1 [.int .i64 (a1 : Nat), .int .i64 (b2 : Nat)] rfl rfl C7.out C3.out C4 C5 C6 ?_; intro v2 w6 ho6 hg6 hn6; have ho6' := Lib.hid ho6; have hg6' := Lib.hid hg6; clear ho6 hg6 hn6)
                have fa := Lib.hid ((hfd'.out.alloc _).trans (grown_F hg6'.out) fun q hq e => by have := (own_type hown'.out e).1; omega : Far (fun _ => False) w w6)
                have ho7 := Lib.hid (show w6.ownsRow w.heap.size 71 2 v2 (o ++ [(a1, b2)]).length (ccells (o ++ [(a1, b2)])) by
                  have := ho6'.out
                  rw [← ccells_app _ (a1, b2)] at this
                  rw [List.length_append, List.length_singleton, ← hn'.out]
                  exact this)
                go_roundw
                case rel => exact ⟨i, j + 1, o ++ [(a1, b2)], true, by omega, by omega, by go_num, by go_num, rfl, hstep.out, ho7.out, fa.out⟩
                case measure => simp [intOf]; omega
              · have h2 : ¬ (a1 : Int) = (b1 : Int) := by omega
                clear hE
                go_wp2_with fail
                go_quiet (fail)
                obtain ⟨wd, hwd⟩ : ∃ wd, wd = wc.drewN nq := ⟨_, rfl⟩
                have hfd : Far (fun _ => False) wi (wc.drewN nq) := (hfcH.out).drewN nq
                rw [← hwd] at hfd ⊢
                have hfd' := Lib.hid (hf'.out.then hfd)
                have hownd' := Lib.hid (row_same hown'.out fun k hk hl => hfd.block k hl id)
                obtain ⟨s0, s1, s2, s3⟩ := HK.out wd hfd
                clear r0 r1 r2 r3
                clear hwd hfd
                obtain ⟨ci, hci, hz0, hz1, hz2⟩ := info_parts cellInfo
                have C1 := Lib.hid (World.ownsRow.alloc hownd'.out (.cells #[.int .i64 (b1 : Nat), .int .i64 (b2 : Nat)] 71))
                have C7 := Lib.hid (World.news_of_block (w := wd.alloc (.cells #[.int .i64 (b1 : Nat), .int .i64 (b2 : Nat)] 71)) (cs := #[.int .i64 (b1 : Nat), .int .i64 (b2 : Nat)]) (t := 71) (fr := (0, 0)) (heap_alloc_new wd _))
                have C3 := Lib.hid (show ∀ u ∈ [(.int .i64 (b1 : Nat) : Value), .int .i64 (b2 : Nat)], u.oneCell' = true by simp [Value.oneCell'])
                have C4 : n + 1 ≤ maxLen := by unfold maxLen; omega
                have C5 : (n + 1) * 16 ≤ 140737488355328 := by omega
                have C6 : w.heap.size ≤ (wd.alloc (.cells #[.int .i64 (b1 : Nat), .int .i64 (b2 : Nat)] 71)).heap.size := by have := hfd'.out.size; simp; omega
                go_wp2_with (at_builtin; refine wpList_append_own _ rfl _ _ 22 rfl w.heap.size 71 ci _ 2 16 Tryz.underlying22 hci hz0 hz1 hz2 rfl (by decide) (.slice oo n oc) n _ rfl C1.out ⟨wd.heap.size, 0, none⟩ 1 1 [.int .i64 (b1 : Nat), .int .i64 (b2 : Nat)] rfl rfl C7.out C3.out C4 C5 C6 ?_; intro v2 w6 ho6 hg6 hn6; have ho6' := Lib.hid ho6; have hg6' := Lib.hid hg6; clear ho6 hg6 hn6)
                have fa := Lib.hid ((hfd'.out.alloc _).trans (grown_F hg6'.out) fun q hq e => by have := (own_type hown'.out e).1; omega : Far (fun _ => False) w w6)
                have ho7 := Lib.hid (show w6.ownsRow w.heap.size 71 2 v2 (o ++ [(b1, b2)]).length (ccells (o ++ [(b1, b2)])) by
                  have := ho6'.out
                  rw [← ccells_app _ (b1, b2)] at this
                  rw [List.length_append, List.length_singleton, ← hn'.out]
                  exact this)
                go_roundw
                case rel => exact ⟨i, j + 1, o ++ [(b1, b2)], true, by omega, by omega, by go_num, by go_num, rfl, hstep.out, ho7.out, fa.out⟩
                case measure => simp [intOf]; omega
      · have e : j = nb := by omega
        subst e
        have hstep := Lib.hid (hM'.out.left hla hlb hxaH.out fun y hy => by rw [List.getElem?_eq_none (by rw [← hnb'.out]; exact Nat.le_refl _)] at hy; cases hy)
        have HK := Lib.hid (show ∀ w2, Far (fun _ => False) wi w2 → w2.cell? ⟨ga, oa + i * 2, none⟩ = some (.int .i64 (a1 : Nat)) ∧ w2.cell? ⟨ga, oa + i * 2 + 1, none⟩ = some (.int .i64 (a2 : Nat)) from fun w2 hf => ⟨(cell_eq (hf.block ga la0 id)).trans pa0, (cell_eq (hf.block ga la0 id)).trans pa1⟩)
        clear pa0 pa1 hPB
        go_wp2_with fail
        go_quiet (fail)
        obtain ⟨wd, hwd⟩ : ∃ wd, wd = wi.drewN nq := ⟨_, rfl⟩
        have hfd : Far (fun _ => False) wi (wi.drewN nq) := (Far.refl _ wi).drewN nq
        rw [← hwd] at hfd ⊢
        have hfd' := Lib.hid (hf'.out.then hfd)
        have hownd' := Lib.hid (row_same hown'.out fun k hk hl => hfd.block k hl id)
        obtain ⟨s0, s1⟩ := HK.out wd hfd
        clear hwd hfd
        obtain ⟨ci, hci, hz0, hz1, hz2⟩ := info_parts cellInfo
        have C1 := Lib.hid (World.ownsRow.alloc hownd'.out (.cells #[.int .i64 (a1 : Nat), .int .i64 (a2 : Nat)] 71))
        have C7 := Lib.hid (World.news_of_block (w := wd.alloc (.cells #[.int .i64 (a1 : Nat), .int .i64 (a2 : Nat)] 71)) (cs := #[.int .i64 (a1 : Nat), .int .i64 (a2 : Nat)]) (t := 71) (fr := (0, 0)) (heap_alloc_new wd _))
        have C3 := Lib.hid (show ∀ u ∈ [(.int .i64 (a1 : Nat) : Value), .int .i64 (a2 : Nat)], u.oneCell' = true by simp [Value.oneCell'])
        have C4 : n + 1 ≤ maxLen := by unfold maxLen; omega
        have C5 : (n + 1) * 16 ≤ 140737488355328 := by omega
        have C6 : w.heap.size ≤ (wd.alloc (.cells #[.int .i64 (a1 : Nat), .int .i64 (a2 : Nat)] 71)).heap.size := by have := hfd'.out.size; simp; omega
        go_wp2_with (at_builtin; refine wpList_append_own _ rfl _ _ 22 rfl w.heap.size 71 ci _ 2 16 Tryz.underlying22 hci hz0 hz1 hz2 rfl (by decide) (.slice oo n oc) n _ rfl C1.out ⟨wd.heap.size, 0, none⟩ 1 1 [.int .i64 (a1 : Nat), .int .i64 (a2 : Nat)] rfl rfl C7.out C3.out C4 C5 C6 ?_; intro v2 w6 ho6 hg6 hn6; have ho6' := Lib.hid ho6; have hg6' := Lib.hid hg6; clear ho6 hg6 hn6)
        have fa := Lib.hid ((hfd'.out.alloc _).trans (grown_F hg6'.out) fun q hq e => by have := (own_type hown'.out e).1; omega : Far (fun _ => False) w w6)
        have ho7 := Lib.hid (show w6.ownsRow w.heap.size 71 2 v2 (o ++ [(a1, a2)]).length (ccells (o ++ [(a1, a2)])) by
          have := ho6'.out
          rw [← ccells_app _ (a1, a2)] at this
          rw [List.length_append, List.length_singleton, ← hn'.out]
          exact this)
        go_roundw
        case rel => exact ⟨i + 1, j, o ++ [(a1, a2)], mo, by omega, by omega, by go_num, by go_num, rfl, hstep.out, ho7.out, fa.out⟩
        case measure => simp [intOf]; omega
    · have e : i = na := by omega
      subst e
      by_cases hjt : j < nb
      · have hjj : (j : Int) < (nb : Int) := by omega
        have hje : ¬ (j : Int) = (nb : Int) := by omega
        have dje2 : ((j : Int) == (nb : Int)) = false := by simpa using hje
        obtain ⟨⟨b1, b2⟩, hxb⟩ := atS (l := lb) (k := j) (by rw [← hnb'.out]; exact hjt)
        obtain ⟨gb, ob, rfl, lb0, pb0, pb1⟩ := hPB.at hxb
        have hxbH := Lib.hid hxb
        clear hxb hPB
        have hstep := Lib.hid (hM'.out.right hla hlb hxbH.out fun y hy => by rw [List.getElem?_eq_none (by rw [← hna'.out]; exact Nat.le_refl _)] at hy; cases hy)
        have HK := Lib.hid (show ∀ w2, Far (fun _ => False) wi w2 → w2.cell? ⟨gb, ob + j * 2, none⟩ = some (.int .i64 (b1 : Nat)) ∧ w2.cell? ⟨gb, ob + j * 2 + 1, none⟩ = some (.int .i64 (b2 : Nat)) from fun w2 hf => ⟨(cell_eq (hf.block gb lb0 id)).trans pb0, (cell_eq (hf.block gb lb0 id)).trans pb1⟩)
        clear pb0 pb1 hPA
        go_wp2_with fail
        go_quiet (fail)
        obtain ⟨wc, hwc⟩ : ∃ wc, wc = wi.drewN nq := ⟨_, rfl⟩
        have hfcH := Lib.hid (hwc ▸ (Far.refl _ wi).drewN nq : Far (fun _ => False) wi wc)
        rw [← hwc]
        clear hwc
        go_wp2_with fail
        go_quiet (fail)
        obtain ⟨wd, hwd⟩ : ∃ wd, wd = wc.drewN nq := ⟨_, rfl⟩
        have hfd : Far (fun _ => False) wi (wc.drewN nq) := (hfcH.out).drewN nq
        rw [← hwd] at hfd ⊢
        have hfd' := Lib.hid (hf'.out.then hfd)
        have hownd' := Lib.hid (row_same hown'.out fun k hk hl => hfd.block k hl id)
        obtain ⟨s0, s1⟩ := HK.out wd hfd
        clear hwd hfd
        obtain ⟨ci, hci, hz0, hz1, hz2⟩ := info_parts cellInfo
        have C1 := Lib.hid (World.ownsRow.alloc hownd'.out (.cells #[.int .i64 (b1 : Nat), .int .i64 (b2 : Nat)] 71))
        have C7 := Lib.hid (World.news_of_block (w := wd.alloc (.cells #[.int .i64 (b1 : Nat), .int .i64 (b2 : Nat)] 71)) (cs := #[.int .i64 (b1 : Nat), .int .i64 (b2 : Nat)]) (t := 71) (fr := (0, 0)) (heap_alloc_new wd _))
        have C3 := Lib.hid (show ∀ u ∈ [(.int .i64 (b1 : Nat) : Value), .int .i64 (b2 : Nat)], u.oneCell' = true by simp [Value.oneCell'])
        have C4 : n + 1 ≤ maxLen := by unfold maxLen; omega
        have C5 : (n + 1) * 16 ≤ 140737488355328 := by omega
        have C6 : w.heap.size ≤ (wd.alloc (.cells #[.int .i64 (b1 : Nat), .int .i64 (b2 : Nat)] 71)).heap.size := by have := hfd'.out.size; simp; omega
        go_wp2_with (at_builtin; refine wpList_append_own _ rfl _ _ 22 rfl w.heap.size 71 ci _ 2 16 Tryz.underlying22 hci hz0 hz1 hz2 rfl (by decide) (.slice oo n oc) n _ rfl C1.out ⟨wd.heap.size, 0, none⟩ 1 1 [.int .i64 (b1 : Nat), .int .i64 (b2 : Nat)] rfl rfl C7.out C3.out C4 C5 C6 ?_; intro v2 w6 ho6 hg6 hn6; have ho6' := Lib.hid ho6; have hg6' := Lib.hid hg6; clear ho6 hg6 hn6)
        have fa := Lib.hid ((hfd'.out.alloc _).trans (grown_F hg6'.out) fun q hq e => by have := (own_type hown'.out e).1; omega : Far (fun _ => False) w w6)
        have ho7 := Lib.hid (show w6.ownsRow w.heap.size 71 2 v2 (o ++ [(b1, b2)]).length (ccells (o ++ [(b1, b2)])) by
          have := ho6'.out
          rw [← ccells_app _ (b1, b2)] at this
          rw [List.length_append, List.length_singleton, ← hn'.out]
          exact this)
        go_roundw
        case rel => exact ⟨i, j + 1, o ++ [(b1, b2)], true, by omega, by omega, by go_num, by go_num, rfl, hstep.out, ho7.out, fa.out⟩
        case measure => simp [intOf]; omega
      · have e : j = nb := by omega
        subst e
        have hd := Lib.hid (MI.done (la := la) (lb := lb) (o := o) (mo := mo) (by rw [← hna'.out, ← hnb'.out]; exact hM'.out))
        have hl := Lib.hid (hM'.out.len)
        have hown2 := Lib.hid (show wi.ownsRow w.heap.size 71 2 (.slice oo n oc) o.length (ccells o) by rw [← hn'.out]; exact hown'.out)
        clear hPA hPB
        go_wp2_with fail
        go_ret2
        exact ⟨_, mo, rfl, o, hown2.out, hd.out.1, hd.out.2.1, hd.out.2.2, hl.out, hf'.out⟩
end
end Go.Proofs.YtjolkhiggcmoiaaGreatDoor
