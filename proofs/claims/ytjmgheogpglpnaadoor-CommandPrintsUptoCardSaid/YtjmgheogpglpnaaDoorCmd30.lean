/-
  Commands as texts, by their bytes: plain functions, no memory.
-/
import Derived.Lib.IndexMore
import Derived.Lib.AtoiAll
import Derived.Lib.ItoaNum
import Derived.Test.YtjmgheogpglpnaaDoorRows
namespace Go.Proofs.YtjmgheogpglpnaaDoor
set_option linter.unusedVariables false
set_option linter.unusedSimpArgs false
abbrev Tx := List UInt8
/-- A text's value. -/
def st (l : Tx) : Value := .string ⟨l.toArray⟩
theorem st_inj {a b : Tx} (h : st a = st b) : a = b := by
  unfold st at h
  injection h with h
  have := congrArg (fun x : ByteArray => x.data.toList) h
  simpa using this
theorem st_of (s : ByteArray) : Value.string s = st s.data.toList := by
  unfold st; congr 1
/-- A text cut at its first blank. -/
def cutT (l : Tx) : Tx × Tx × Bool := Lib.cut l [32]
/-- A command. -/
structure Cm where
  v : Nat
  how : Nat
  names : List Tx
  nums : List Nat
  text : Tx
def cm0 : Cm := ⟨0, 0, [], [], []⟩
/-- What is left of a line: the rest, and whether a blank stands ahead of it. -/
abbrev St := Tx × Bool
def nameF (s : St) : Option (Tx × St) := if s.2 = true then (if (cutT s.1).1 = [] then none else some ((cutT s.1).1, ((cutT s.1).2.1, (cutT s.1).2.2))) else none
def namesF : Nat → List Tx → St → Option (List Tx × St)
  | 0, acc, s => some (acc, s)
  | k + 1, acc, s => match nameF s with
    | none => none
    | some (x, s') => namesF k (acc ++ [x]) s'
/-- The number of a text. -/
def numT (x : Tx) : Option Nat := match Lib.atoiAll x with
  | .ok n => if x.length ≤ 9 ∧ x = Lib.itoa n ∧ 0 ≤ n then some n.toNat else none
  | _ => none
def numberF (s : St) : Option (Nat × St) := match nameF s with
  | none => none
  | some (x, s') => match numT x with
    | none => none
    | some n => some (n, s')
def tGrammar : Tx := [103, 114, 97, 109, 109, 97, 114]
def tGraph : Tx := [103, 114, 97, 112, 104]
def tNode : Tx := [110, 111, 100, 101]
def tEdge : Tx := [101, 100, 103, 101]
def tQuery : Tx := [113, 117, 101, 114, 121]
def tPath : Tx := [112, 97, 116, 104]
def tPaths : Tx := [112, 97, 116, 104, 115]
def tRules : Tx := [114, 117, 108, 101, 115]
def tEdges : Tx := [101, 100, 103, 101, 115]
def tSize : Tx := [115, 105, 122, 101]
def tMatrix : Tx := [109, 97, 116, 114, 105, 120]
def tTensor : Tx := [116, 101, 110, 115, 111, 114]
def tGll : Tx := [103, 108, 108]
def verbs : List Tx := [tGrammar, tGraph, tNode, tEdge, tQuery, tPath, tPaths, tRules, tEdges, tSize]
def hows : List Tx := [[], tMatrix, tTensor, tGll]
/-- A verb's word. -/
def wordV (v : Nat) : Tx := if v = 0 then [] else verbs.getD (v - 1) []
/-- The verb of a word; 0: it is none's. -/
def verbOf (x : Tx) : Nat := if x ∈ verbs then verbs.idxOf x + 1 else 0
def howOf (x : Tx) : Option Nat := if x ∈ hows then some (hows.idxOf x) else none
/-- What is read behind a verb's word. -/
def readF (v : Nat) (s : St) : Option (Cm × St) :=
  if v = 1 ∨ v = 2 then (if s.2 = true then some ({ cm0 with v := v, text := s.1 }, ([], false)) else none)
  else if v = 5 then match nameF s with
    | none => none
    | some (x, s1) => match howOf x with
      | none => none
      | some h => match namesF 1 [] s1 with
        | none => none
        | some (l, s2) => some ({ cm0 with v := v, how := h, names := l }, s2)
  else if v = 7 then match namesF 3 [] s with
    | none => none
    | some (l, s1) => match numberF s1 with
      | none => none
      | some (a, s2) => match numberF s2 with
        | none => none
        | some (b, s3) => some ({ cm0 with v := v, names := l, nums := [a, b] }, s3)
  else match namesF (if v = 3 then 1 else if v = 4 ∨ v = 6 then 3 else 0) [] s with
    | none => none
    | some (l, s1) => some ({ cm0 with v := v, names := l }, s1)
/-- What a line is: a command, or the error's number. -/
def parseV (v : Nat) (s : St) : Nat ⊕ Cm :=
  if v = 0 then .inl 400
  else match readF v s with
    | none => .inl 401
    | some (c, s) => if s.2 = true then .inl 401 else .inr c
def parseF (l : Tx) : Nat ⊕ Cm := parseV (verbOf (cutT l).1) ((cutT l).2.1, (cutT l).2.2)
end Go.Proofs.YtjmgheogpglpnaaDoor
