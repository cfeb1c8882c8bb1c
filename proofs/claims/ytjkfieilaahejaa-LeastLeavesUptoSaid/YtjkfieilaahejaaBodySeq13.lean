/-
  What the program's bodies hand out: all that comes of a body, each in a row of its own.
-/
import Derived.Test.YtjkfieilaahejaaIdxI13
import Derived.Test.YtjkfieilaahejaaRangeOk
namespace Go.Proofs.Ytjkfieilaahejaa
open Go.RowKit
set_option linter.unusedVariables false
set_option linter.unusedSimpArgs false
theorem far_grown {w w' : World} (h : Far (fun _ => False) w w') : w.grownBy w' none := ⟨h.os, h.tape, h.output, h.size, fun k hk _ => h.block k hk id⟩
theorem KeepK.far {K : Nat → Prop} {A B C : World} (h : KeepK K A B) (hK : ∀ k, K k → k < B.heap.size) (hf : Far (fun _ => False) B C) : KeepK K A C := fun k hk => (hf.block k (hK k hk) id).trans (h k hk)
theorem keepK_lt {K : Nat → Prop} {A B : World} (h : KeepK K A B) {k : Nat} (hk : K k) (hl : k < A.heap.size) : k < B.heap.size := by
  have := h k hk
  rw [Array.getElem?_eq_getElem hl] at this
  exact (Array.getElem?_eq_some_iff.1 this).1
theorem keepK_put {K : Nat → Prop} {B : Nat} (hK : ∀ k, K k → k < B) (W : World) (l : Nat) (o o' : Obj) (hl : B ≤ l) : KeepK K W (W.putObj l o') := fun k hk => World.putObj_heap_other fun e => by have := hK k hk; omega
theorem Src.keep {K : Nat → Prop} {A B : World} {sz m : Nat} {v : Value} {xs : List Value} (h : Src A sz v m xs) (hk : KeepK K A B) (hK : ∀ a n c, v = .slice (some a) n c → 0 < xs.length → K a.block) : Src B sz v m xs := by
  obtain ⟨h1, h2 | ⟨a, c, rfl, h2⟩⟩ := h
  · exact ⟨h1, .inl h2⟩
  · refine ⟨h1, .inr ⟨a, c, rfl, fun j u hu => ?_⟩⟩
    obtain ⟨hb, hc⟩ := h2 j u hu
    have h0 : 0 < xs.length := by have := (List.getElem?_eq_some_iff.1 hu).1; omega
    exact ⟨keepK_lt hk (hK _ _ _ rfl h0) hb, (cell_eq (by rw [add_block]; exact hk _ (hK _ _ _ rfl h0))).trans hc⟩
theorem round_bool {e : Ending} {A B : Prop} (h : (e = .returned (.bool true) ∧ A) ∨ (e = .returned (.bool false) ∧ B)) : ∃ bv : Bool, e = .returned (.bool bv) ∧ ((bv = true ∧ A) ∨ (bv = false ∧ B)) :=
  h.elim (fun h => ⟨true, h.1, .inl ⟨rfl, h.2⟩⟩) (fun h => ⟨false, h.1, .inr ⟨rfl, h.2⟩⟩)
theorem putObj_size (W : World) (l : Nat) (o : Obj) : W.heap.size ≤ (W.putObj l o).heap.size := (grownBy_putObj' W l o).size
def KeepS (K : Nat → Prop) (A B : World) : Prop := KeepK K A B ∧ A.heap.size ≤ B.heap.size
theorem keepS_t {K : Nat → Prop} {A B C : World} (h : KeepS K A B) (k : KeepS K B C) : KeepS K A C := ⟨keepK_t h.1 k.1, Nat.le_trans h.2 k.2⟩
theorem keepS_put {K : Nat → Prop} {B : Nat} (hK : ∀ k, K k → k < B) (W : World) (l : Nat) (o o' : Obj) (hl : B ≤ l) : KeepS K W (W.putObj l o') := ⟨keepK_put hK W l o o' hl, (putObj_size W l o')⟩
/-- A list of symbols of the call's own. -/
def SOwn (w : World) (B : Nat) (v : Value) (l : List Sy) : Prop := w.ownsRow B 50 2 v l.length (scells l)
/-- What is handed out: the next body, in a row made since B. -/
def BOk (em : Nat → Bool) (l : List Sy) (B : Nat) (pre : List Value) (x : Value) (W : World) : Prop := pre.length < 2 ^ (placesF em 0 l).length ∧ SOwn W B x (bodyG em l pre.length)
theorem idx_lt : ∀ {L : List Nat} {k j : Nat}, L.idxOf? k = some j → j < L.length
  | [], _, _, h => by simp at h
  | a :: L, k, j, h => by
    rw [List.idxOf?_cons] at h
    by_cases e : (a == k) = true
    · rw [if_pos e] at h
      cases h
      simp
    · rw [if_neg e] at h
      cases hx : L.idxOf? k with
      | none => rw [hx] at h; cases h
      | some x =>
        rw [hx] at h
        have := idx_lt hx
        simp only [Option.map_some, Option.some.injEq] at h
        simp only [List.length_cons]
        omega
def bencs (x : Value) : Array Value := #[x]
theorem shl_one (k : Nat) (h : k ≤ 12) : wrap64 ((2 : Int) ^ k) = ((2 ^ k : Nat) : Int) ∧ 2 ^ k ≤ 4096 := by
  have : k = 0 ∨ k = 1 ∨ k = 2 ∨ k = 3 ∨ k = 4 ∨ k = 5 ∨ k = 6 ∨ k = 7 ∨ k = 8 ∨ k = 9 ∨ k = 10 ∨ k = 11 ∨ k = 12 := by omega
  rcases this with rfl | rfl | rfl | rfl | rfl | rfl | rfl | rfl | rfl | rfl | rfl | rfl | rfl <;> exact ⟨by kernel_rfl, by decide⟩
theorem i64_and1 (n : Int) : bits .and .i64 n 1 = n % 2 := by
  have h1 : (BitVec.ofInt 64 1).toNat = 2 ^ 1 - 1 := by decide
  have key : (BitVec.ofInt 64 n &&& BitVec.ofInt 64 1).toNat = (n % ((2 ^ 64 : Nat) : Int)).toNat % 2 ^ 1 := by
    rw [BitVec.toNat_and, BitVec.toNat_ofInt, h1, Nat.and_two_pow_sub_one_eq_mod]
  show IntKind.i64.wrap ((BitVec.ofInt 64 n &&& BitVec.ofInt 64 1).toNat : Nat) = n % 2
  rw [key, IntKind.wrap_i64]
  omega
theorem bit_one (g j : Nat) : bits .and .i64 ((g : Int) / 2 ^ j) 1 = ((g / 2 ^ j % 2 : Nat) : Int) := by
  rw [i64_and1]
  simp
theorem scells_app (a : List Sy) (x : Sy) : scells (a ++ [x]) = scells a ++ [.bool x.1, .int .i64 x.2] := by simp [scells, scell]
theorem sown_push {w : World} {B : Nat} {v : Value} {a : List Sy} {xb : Bool} {xn : Int} (h : w.ownsRow B 50 2 v (a.length + 1) (scells a ++ [.bool xb, .int .i64 xn])) : SOwn w B v (a ++ [(xb, xn)]) := by
  unfold SOwn
  rw [List.length_append, scells_app]
  exact h
theorem rowUp {w : World} {base base' e size n : Nat} {v : Value} {xs : List Value} (h : w.ownsRow base e size v n xs) (hb : base' ≤ base) : w.ownsRow base' e size v n xs := ⟨h.1, h.2.imp id fun ⟨g, cap, cur, e, hg, r⟩ => ⟨g, cap, cur, e, Nat.le_trans hb hg, r⟩⟩
set_option maxRecDepth 100000 in
set_option maxHeartbeats 4000000 in
theorem bodies_seq (n : Nat) (hn : 2 ≤ n) (h : Nat) (vo po : Option Addr) (vc pc m : Nat) (l : List Sy) (em : Nat → Bool) (K : Nat → Prop) (w0 : World) (hm : m = (placesF em 0 l).length) (hm12 : m ≤ 12) (hl : l.length ≤ 1099511627776)
    (hX : Bk w0 h 42 #[.slice vo l.length vc]) (hY0 : Bk w0 (h + 1) 33 #[.slice po m pc]) (hB : Body w0 (.slice vo l.length vc) l) (hP : Src w0 1 (.slice po m pc) m (iv (placesF em 0 l)))
    (hK : ∀ k, K k → k < w0.heap.size) (k1 : K h) (k2 : K (h + 1)) (k3 : ∀ a, vo = some a → 0 < l.length → K a.block) (k4 : ∀ a, po = some a → 0 < m → K a.block) :
    SeqOk n Try.prog 42 #[.pointer (some ⟨h + 1, 0, none⟩), .pointer (some ⟨h, 0, none⟩)] bencs (BOk em l w0.heap.size) (KeepS K) (fun xs => xs.length = 2 ^ m) (fun _ => True) w0 := fun L J Jx W hW hJ hYd h0 => by
  have kW : KeepK K w0 W := fun k hk => hW.block k (hK k hk)
  have HY := Lib.hid hYd
  have HJ := Lib.hid hJ
  have hW0 := Lib.hid hW.size
  have HX := Lib.hid (fun wr (k : KeepK K w0 wr) => And.intro (hX.keep k k1) (hY0.keep k k2))
  have HB := Lib.hid (fun wr (k : KeepK K w0 wr) => Src.keep hB k (fun a n c e h0 => k3 a (by cases e; rfl) (by rw [scells_len] at h0; omega)))
  have HP := Lib.hid (fun wr (k : KeepK K w0 wr) => Src.keep hP k (fun a n c e h0 => k4 a (by cases e; rfl) (by unfold iv at h0; rw [List.length_map] at h0; omega)))
  have HKl := Lib.hid (fun wr (k : KeepK K w0 wr) i (hi : K i) => keepK_lt k hi (hK i hi))
  obtain ⟨s1, s2⟩ := shl_one m hm12
  obtain ⟨M, hM⟩ : ∃ M, M = 2 ^ m := ⟨_, rfl⟩
  rw [← hM] at s1 s2 ⊢
  have hm' := Lib.hid hm
  have hM' := Lib.hid hM
  have b0 : W.cell? ⟨h, 0, none⟩ = some (.slice vo l.length vc) := (HX.out W kW).1.cell 0
  have b1 : W.cell? ⟨h + 1, 0, none⟩ = some (.slice po m pc) := (HX.out W kW).2.cell 0
  clear hYd hJ hW hX hY0 hB hP hm hM k1 k2 k3 k4 hK
  refine callsIn_of_wp Try.func42 rfl trivial (wpIn_wide.2 ?_) rfl
  simp only [Try.ntmps42, List.size_toArray, List.length_cons, List.length_nil, Nat.reduceAdd, Nat.reduceSub, Array.replicate_succ, Array.replicate_zero, List.push_toArray, List.append_toArray, List.nil_append, List.cons_append]
  have hn1 : 1 ≤ n := by omega
  go_wp2_with fail
  rw [s1]
  have s1' := Lib.hid s1
  clear s1
  obtain ⟨pi, pz, pi1, pi2, pi3, pi4, pi5⟩ := info3 info_sym
  have A7 : 0 < 2 := by decide
  clear b0 b1
  go_loopw [12] (fun iv' wr => ∃ (g : Nat) (pre : List Value), iv' = .int .i64 g ∧ g ≤ M ∧ pre.length = g ∧ J pre wr ∧ KeepK K w0 wr ∧ W.heap.size ≤ wr.heap.size) (fun iv' _ => M - (intOf iv').toNat)
  case atStart => exact ⟨0, [], rfl, Nat.zero_le _, rfl, h0, kW, Nat.le_refl _⟩
  case round =>
    clear h0 kW
    obtain ⟨g, pre, rfl, hg, hpre, hJi, hk, hsz⟩ := hrel
    obtain ⟨c0, c1⟩ := HX.out wr hk
    have b0 : wr.cell? ⟨h, 0, none⟩ = some (.slice vo l.length vc) := c0.cell 0
    have b1 : wr.cell? ⟨h + 1, 0, none⟩ = some (.slice po m pc) := c1.cell 0
    have hk0 := Lib.hid hk
    have hJ0 := Lib.hid hJi
    have hpre' := Lib.hid hpre
    clear c0 c1 hJi hpre
    by_cases hlt : g < M
    rotate_left
    · have e1 : decide ((g : Int) < (M : Int)) = false := by rw [decide_eq_false_iff_not]; omega
      have e2 : decide (g < M) = false := by rw [decide_eq_false_iff_not]; omega
      have hgM : g = M := by omega
      have hxs := Lib.hid (show pre.length = 2 ^ m by rw [hpre'.out, hgM, hM'.out])
      clear hgM
      go_wp2_with fail
      go_end0
      exact ⟨⟨_, rfl⟩, .inl ⟨_, by rw [hM'.out]; exact hxs.out, hJ0.out⟩⟩
    have e1 : decide ((g : Int) < (M : Int)) = true := by rw [decide_eq_true_eq]; omega
    have hgI : (g : Int) < (M : Int) := by omega
    obtain ⟨wo, hwo⟩ : ∃ wo, wo = wr := ⟨_, rfl⟩
    rw [← hwo] at b0 b1 hsz hk0 hJ0 hk ⊢
    clear hwo hk
    go_wp2_with fail
    go_loopw [5, 17] (fun lv iv' wq => ∃ i : Nat, iv' = .int .i64 i ∧ i ≤ l.length ∧ SOwn wq wo.heap.size lv (keepL (placesF em 0 l) g 0 (l.take i)) ∧ Far (fun k => wo.heap.size ≤ k) wo wq) (fun _ iv' _ => l.length - (intOf iv').toNat)
    case atStart => exact ⟨0, rfl, Nat.zero_le _, World.ownsRow_nil _ _ _ _, Far.refl _ _⟩
    case round =>
      obtain ⟨i, rfl, hi, hO, hf⟩ := hrel
      obtain ⟨lo, lc, rfl⟩ := Src.form (Src.own hO)
      have hfw : Far (fun _ => False) wo wr := hf.mono fun k hk e => by omega
      have hkr := KeepK.far hk0.out (HKl.out wo hk0.out) hfw
      obtain ⟨c0, c1⟩ := HX.out wr hkr
      have d0 : wr.cell? ⟨h, 0, none⟩ = some (.slice vo l.length vc) := c0.cell 0
      have d1 : wr.cell? ⟨h + 1, 0, none⟩ = some (.slice po m pc) := c1.cell 0
      have hBr : Body wr (.slice vo l.length vc) l := HB.out wr hkr
      have hO' := Lib.hid hO
      have hf' := Lib.hid hf
      have hkr' := Lib.hid hkr
      have hz1 : wo.heap.size ≤ wr.heap.size := hf.size
      clear b0 b1 c0 c1 hO hf
      by_cases hil : i < l.length
      · have e3 : decide ((i : Int) < (l.length : Int)) = true := by rw [decide_eq_true_eq]; omega
        have hii : (i : Int) < (l.length : Int) := by omega
        obtain ⟨x, hx⟩ : ∃ x, l[i]? = some x := ⟨l[i], List.getElem?_eq_getElem hil⟩
        obtain ⟨b, off, c, he, hbl, x0, x1⟩ := Body.sym hBr hx
        simp only [Value.slice.injEq] at he
        obtain ⟨rfl, _, rfl⟩ := he
        obtain ⟨xb, xn⟩ := x
        simp only [] at x0 x1
        have hst := Lib.hid (keepL_take (placesF em 0 l) g l 0 i (xb, xn) hx)
        obtain ⟨kx, hkx⟩ : ∃ k, k = wr.heap.size := ⟨_, rfl⟩
        obtain ⟨wx, hwx⟩ : ∃ wx, wx = wr.alloc (.cells #[.bool xb, .int .i64 xn] 50) := ⟨_, rfl⟩
        have hXx := Lib.hid (hwx ▸ Bk.new hkx : Bk wx kx 50 #[.bool xb, .int .i64 xn])
        have fwx : Far (fun _ => False) wr wx := hwx ▸ alloc_far0 _ _
        have hOx := Lib.hid (show SOwn wx wo.heap.size _ _ from row_far hO'.out fwx fun _ _ q => q)
        have hfx := Lib.hid (hf'.out.trans (fwx.mono (G := fun k => wo.heap.size ≤ k) fun _ _ q => q.elim) fun _ _ q => q)
        have hkx' := Lib.hid (KeepK.far hkr (HKl.out wr hkr) fwx)
        have y1 : wx.cell? ⟨h + 1, 0, none⟩ = some (.slice po m pc) := (HX.out wx hkx'.out).2.cell 0
        have y2 : wx.cell? ⟨kx, 0, none⟩ = some (.bool xb) := hXx.out.cell 0
        have y3 : wx.cell? ⟨kx, 1, none⟩ = some (.int .i64 xn) := hXx.out.cell 1
        have IX := Lib.hid (idxI_any (.slice po m pc) (placesF em 0 l) i wx (by rw [← hm'.out]; exact HP.out wx hkx'.out) (Nat.le_trans (places_bound em l 0) hl))
        have hzx : wo.heap.size ≤ wx.heap.size := Nat.le_trans hz1 fwx.size
        have hwx' := Lib.hid hwx
        have hkx2 := Lib.hid hkx
        have hsl := Lib.hid (Nat.le_trans (keepL_len (placesF em 0 l) g (l.take i) 0) (by rw [List.length_take]; exact Nat.min_le_left _ _))
        clear hwx hkx hx fwx hkr hBr hfw
        go_upto_region 7 with fail
        rw [← hkx2.out, ← hwx'.out]
        clear x0 x1 d0 d1
        cases hix : (placesF em 0 l).idxOf? i with
        | none =>
          have hij : idxI (placesF em 0 l) i = -1 := by unfold idxI; rw [hix]
          rw [hij] at IX
          have hkb := Lib.hid (show keepB (placesF em 0 l) g i = true by unfold keepB; rw [hix])
          clear hij hix
          have hke := Lib.hid (show keepL (placesF em 0 l) g 0 (l.take (i + 1)) = keepL (placesF em 0 l) g 0 (l.take i) ++ [(xb, xn)] by rw [hst.out, Nat.zero_add, if_pos (hkb.out)])
          have B1 := Lib.hid (World.ownsRow.alloc hOx.out (.cells #[.bool xb, .int .i64 xn] 50))
          have B2 := Lib.hid (src_new wx 50 [.bool xb, .int .i64 xn])
          have B3 := Lib.hid (show ∀ u ∈ [(.bool xb : Value), .int .i64 xn], u.oneCell' = true by simp [Value.oneCell'])
          have B4 : (keepL (placesF em 0 l) g 0 (l.take i)).length + 1 ≤ maxLen := by unfold maxLen; have := hsl.out; omega
          have B5 : ((keepL (placesF em 0 l) g 0 (l.take i)).length + 1) * 16 ≤ 140737488355328 := by have := hsl.out; omega
          have B6 : wo.heap.size ≤ (wx.alloc (.cells #[.bool xb, .int .i64 xn] 50)).heap.size := by simp; omega
          have hown := Lib.hid (fun q (e : (Value.slice lo (keepL (placesF em 0 l) g 0 (l.take i)).length lc).ownBlock = some q) => (World.ownsRow.lt hOx.out q e).1)
          go_wp2_with (first | (go_at_call 43; refine IX.out.mono ?_; rintro e w9 ⟨rfl, e9⟩; replace e9 := e9.symm; subst e9) | (at_builtin; refine wpList_app rfl _ _ 42 rfl wo.heap.size 50 pi pz 2 16 Try.underlying42 pi1 pi2 pi3 pi4 pi5 A7 (.slice lo (keepL (placesF em 0 l) g 0 (l.take i)).length lc) (keepL (placesF em 0 l) g 0 (l.take i)).length _ rfl B1.out (.slice (some ⟨wx.heap.size, 0, none⟩) 1 1) 1 _ rfl B2.out B3.out B4 B5 B6 ?_; intro v2 w5 ho5 hg5; have ho5' := Lib.hid ho5; have hg5' := Lib.hid hg5; clear ho5 hg5))
          go_roundw
          case rel =>
            refine ⟨i + 1, by go_num, by omega, ?_, (hfx.out.alloc _).trans ((grown_far hg5'.out).mono (G := fun k => wo.heap.size ≤ k) fun q _ e => hown.out q e) fun _ _ h => h⟩
            rw [hke.out]
            exact sown_push ho5'.out
          case measure => simp [intOf]; omega
        | some j =>
          have hij : idxI (placesF em 0 l) i = (j : Int) := by unfold idxI; rw [hix]
          have hjm : j < m := by
            rw [hm'.out]
            exact idx_lt hix
          have hjI : (j : Int) < (m : Int) := by omega
          rw [hij] at IX
          have q1 : decide ((j : Int) < 0) = false := by rw [decide_eq_false_iff_not]; omega
          have hbit := bit_one g j
          by_cases hb : g / 2 ^ j % 2 = 0
          · have q2 : (bits BinOp.and IntKind.i64 ((g : Int) / 2 ^ j) 1 == 0) = true := by rw [hbit, hb]; rfl
            have hkb := Lib.hid (show keepB (placesF em 0 l) g i = true by unfold keepB; rw [hix]; simp [hb])
            clear hij hix hbit hb
            have hke := Lib.hid (show keepL (placesF em 0 l) g 0 (l.take (i + 1)) = keepL (placesF em 0 l) g 0 (l.take i) ++ [(xb, xn)] by rw [hst.out, Nat.zero_add, if_pos (hkb.out)])
            have B1 := Lib.hid (World.ownsRow.alloc hOx.out (.cells #[.bool xb, .int .i64 xn] 50))
            have B2 := Lib.hid (src_new wx 50 [.bool xb, .int .i64 xn])
            have B3 := Lib.hid (show ∀ u ∈ [(.bool xb : Value), .int .i64 xn], u.oneCell' = true by simp [Value.oneCell'])
            have B4 : (keepL (placesF em 0 l) g 0 (l.take i)).length + 1 ≤ maxLen := by unfold maxLen; have := hsl.out; omega
            have B5 : ((keepL (placesF em 0 l) g 0 (l.take i)).length + 1) * 16 ≤ 140737488355328 := by have := hsl.out; omega
            have B6 : wo.heap.size ≤ (wx.alloc (.cells #[.bool xb, .int .i64 xn] 50)).heap.size := by simp; omega
            have hown := Lib.hid (fun q (e : (Value.slice lo (keepL (placesF em 0 l) g 0 (l.take i)).length lc).ownBlock = some q) => (World.ownsRow.lt hOx.out q e).1)
            go_wp2_with (first | (go_at_call 43; refine IX.out.mono ?_; rintro e w9 ⟨rfl, e9⟩; replace e9 := e9.symm; subst e9) | (at_builtin; refine wpList_app rfl _ _ 42 rfl wo.heap.size 50 pi pz 2 16 Try.underlying42 pi1 pi2 pi3 pi4 pi5 A7 (.slice lo (keepL (placesF em 0 l) g 0 (l.take i)).length lc) (keepL (placesF em 0 l) g 0 (l.take i)).length _ rfl B1.out (.slice (some ⟨wx.heap.size, 0, none⟩) 1 1) 1 _ rfl B2.out B3.out B4 B5 B6 ?_; intro v2 w5 ho5 hg5; have ho5' := Lib.hid ho5; have hg5' := Lib.hid hg5; clear ho5 hg5))
            go_roundw
            case rel =>
              refine ⟨i + 1, by go_num, by omega, ?_, (hfx.out.alloc _).trans ((grown_far hg5'.out).mono (G := fun k => wo.heap.size ≤ k) fun q _ e => hown.out q e) fun _ _ h => h⟩
              rw [hke.out]
              exact sown_push ho5'.out
            case measure => simp [intOf]; omega
          · have q2 : (bits BinOp.and IntKind.i64 ((g : Int) / 2 ^ j) 1 == 0) = false := by rw [hbit, beq_eq_false_iff_ne]; omega
            have hke := Lib.hid (show keepL (placesF em 0 l) g 0 (l.take (i + 1)) = keepL (placesF em 0 l) g 0 (l.take i) by rw [hst.out, Nat.zero_add, if_neg (by unfold keepB; rw [hix]; simp [hb]), List.append_nil])
            clear hij hix hbit hb
            go_wp2_with (go_at_call 43; refine IX.out.mono ?_; rintro e w9 ⟨rfl, e9⟩; replace e9 := e9.symm; subst e9)
            go_roundw
            case rel => exact ⟨i + 1, by go_num, by omega, by rw [hke.out]; exact hOx.out, hfx.out⟩
            case measure => simp [intOf]; omega
      · have e3 : decide ((i : Int) < (l.length : Int)) = false := by rw [decide_eq_false_iff_not]; omega
        have e4 : decide (i < l.length) = false := by rw [decide_eq_false_iff_not]; exact hil
        have hfull := Lib.hid (show keepL (placesF em 0 l) g 0 (l.take i) = bodyG em l pre.length by rw [List.take_of_length_le (by omega), hpre'.out]; rfl)
        obtain ⟨fn, tmps, assign, body, hy, hR⟩ := HY.out pre (.slice lo (keepL (placesF em 0 l) g 0 (l.take i)).length lc) wr (HJ.out _ _ _ none hJ0.out (far_grown hfw) (fun r e => by cases e)) ⟨by rw [hpre'.out, ← hm'.out, ← hM'.out]; exact hlt, by
          have a := hO'.out
          unfold SOwn at a ⊢
          rw [← hfull.out]
          exact rowUp a (Nat.le_trans hW0.out hsz)⟩
        simp only [bencs] at hy
        clear hBr hfw
        go_upto_region 11 with fail
        refine (wpIn_wide (n := n)).1 ?_
        gi_wp2_with (refine hR.mono ?_; rintro e W3 hc3; obtain ⟨bv, rfl, hc4⟩ := round_bool hc3; have hc5 := Lib.hid hc4; clear hc3 hc4)
        clear hy hR
        rcases hc5.out with ⟨rfl, hJ3, hk3⟩ | ⟨rfl, hJx3⟩
        · have hk4 := Lib.hid (keepK_t hkr'.out hk3.1)
          have hz4 := Lib.hid (Nat.le_trans (Nat.le_trans hsz hz1) hk3.2)
          have hJ4 := Lib.hid hJ3
          clear hJ3 hk3
          go_wp2_with fail
          go_roundw
          case rel => exact ⟨g + 1, _, by go_num, by omega, by rw [List.length_append, hpre'.out]; rfl, hJ4.out, hk4.out, hz4.out⟩
          case measure => simp [intOf]; omega
        · have hJ4 := Lib.hid hJx3
          clear hJx3
          go_wp2_with fail
          refine bodyPost_ret (results_none rfl _ _ _) rfl ?_
          exact ⟨⟨_, rfl⟩, .inr ⟨_, hJ4.out⟩⟩
end Go.Proofs.Ytjkfieilaahejaa
