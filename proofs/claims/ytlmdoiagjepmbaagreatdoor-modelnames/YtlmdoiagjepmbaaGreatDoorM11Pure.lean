/-
  Processes as plain things: which may be.
-/
import Derived.Test.YtlmdoiagjepmbaaGreatDoorX10Pure
namespace Go.Proofs.YtlmdoiagjepmbaaGreatDoor.m11
open Go.Proofs.YtlmdoiagjepmbaaGreatDoor.x10
open Go.RowKit Go.Shelf Go.Sort
open Go.Lib hiding intOf

/-- a node -/
structure Nd where
  kind : Int
  parent : Int
  host : Int
  name : List UInt8
  typ : List UInt8
  key : List UInt8
  n : Int
  deriving DecidableEq
/-- a flow -/
structure Fl where
  src : Int
  dst : Int
  cond : List UInt8
  deriving DecidableEq
/-- a process -/
structure Pc where
  id : List UInt8
  nodes : List Nd
  flows : List Fl
  deriving DecidableEq
/-- is a text read as an expression? -/
def prsB (s : List UInt8) : Bool := match prs 5000 s with
  | some (_, e, _) => e == 0
  | none => false
def n0 : Nd := ⟨0, 0, 0, [], [], [], 0⟩
def f0 : Fl := ⟨0, 0, []⟩
/-- the node of a place -/
def Pc.nd (P : Pc) (i : Int) : Nd := P.nodes[i.toNat]?.getD n0
def isPl (n : Nat) (i : Int) : Bool := decide (0 ≤ i) && decide (i < (n : Int))
def wai (k : Int) : Bool := [3, 6, 7, 8].contains k
def sit (k : Int) : Bool := [9, 10].contains k
def nwi (k : Int) : Bool := sit k || [(1 : Int)].contains k
def bnd (k : Int) : Int × Int := if k = 3 then (1, 9) else if k = 7 ∨ k = 10 then (1, 1048576) else (0, 0)
/-- the rules of a node -/
def ndQ (P : Pc) (j i : Nat) : Bool :=
  let x := P.nodes[i]?.getD n0
  match j with
  | 0 => decide (1 ≤ x.kind) && decide (x.kind ≤ 10)
  | 1 => namV x.name && !((P.nodes.take i).any fun y => y.name == x.name)
  | 2 => x.parent == -1 || (isPl i x.parent && [(8 : Int)].contains (P.nd x.parent).kind)
  | 3 => if sit x.kind then isPl P.nodes.length x.host && wai (P.nd x.host).kind && ((P.nd x.host).parent == x.parent) else x.host == -1
  | 4 => if [3, 6, 9].contains x.kind then namV x.typ else x.typ == []
  | 5 => if [6, 9].contains x.kind then prsB x.key else x.key == []
  | _ => decide ((bnd x.kind).1 ≤ x.n) && decide (x.n ≤ (bnd x.kind).2)
/-- the rules of a flow -/
def flQ (P : Pc) (j i : Nat) : Bool :=
  let x := P.flows[i]?.getD f0
  match j with
  | 0 => isPl P.nodes.length x.src && isPl P.nodes.length x.dst
  | 1 => (P.nd x.src).parent == (P.nd x.dst).parent
  | 2 => !([(2 : Int)].contains (P.nd x.src).kind)
  | 3 => !(nwi (P.nd x.dst).kind)
  | _ => if [(4 : Int)].contains (P.nd x.src).kind then (if x.cond = [] then !((P.flows.take i).any fun y => y.src == x.src && y.cond == []) else prsB x.cond) else x.cond == []
/-- the places of those that are so -/
def plc {α : Type} (q : α → Bool) (l : List α) : List Int := ((List.range l.length).filter fun i => (l[i]?.map q).getD false).map fun (i : Nat) => (i : Int)
def ous (P : Pc) (i : Int) : List Int := plc (fun f => f.src == i) P.flows
def ins (P : Pc) (i : Int) : List Int := plc (fun f => f.dst == i) P.flows
def bgn (s : Int) (x : Nd) : Bool := x.kind == 1 && x.parent == s
/-- the rules of ways -/
def wyQ (P : Pc) (j i : Nat) : Bool :=
  let x := P.nodes[i]?.getD n0
  match j with
  | 0 => if [(2 : Int)].contains x.kind then (ous P i).length == 0 else if [4, 5].contains x.kind then decide (0 < (ous P i).length) else (ous P i).length == 1
  | _ => nwi x.kind == ((ins P i).length == 0)
def allQ (q : Nat → Nat → Bool) (m i : Nat) : Bool := (List.range m).all fun j => q j i
/-- the first that isn't so -/
def fwr (q : Nat → Nat → Bool) (m n : Nat) : Option Nat := (List.range n).find? fun i => !(allQ q m i)
def wsc (P : Pc) : Option Int := ((-1) :: plc (fun x => [(8 : Int)].contains x.kind) P.nodes).find? fun s => (plc (bgn s) P.nodes).length != 1
def whl (P : Pc) : Bool := !(namV P.id) || P.nodes.length == 0 || decide (40 < P.nodes.length) || decide (80 < P.flows.length)
/-- what Check comes to -/
def chk (P : Pc) : Int × Int :=
  if whl P then (14, -1) else match fwr (ndQ P) 7 P.nodes.length with
  | some i => (14, (i : Int))
  | none => match wsc P with
    | some s => (14, s)
    | none => match fwr (flQ P) 5 P.flows.length with
      | some j => (14, 1000 + (j : Int))
      | none => match fwr (wyQ P) 2 P.nodes.length with
        | some i => (14, (i : Int))
        | none => (0, -1)
theorem allQ_iff {q : Nat → Nat → Bool} {m i : Nat} : allQ q m i = true ↔ ∀ j, j < m → q j i = true := by
  unfold allQ
  simp
theorem fwr_some {q : Nat → Nat → Bool} {m n i : Nat} (h1 : i < n) (h2 : allQ q m i = false) (h3 : ∀ j, j < i → allQ q m j = true) : fwr q m n = some i := by
  unfold fwr
  rw [List.find?_range_eq_some]
  exact ⟨by simp [h2], List.mem_range.2 h1, fun j hj => by simp [h3 j hj]⟩
theorem fwr_none {q : Nat → Nat → Bool} {m n : Nat} (h : ∀ j, j < n → allQ q m j = true) : fwr q m n = none := by
  unfold fwr
  rw [List.find?_range_eq_none]
  exact fun j hj => by simp [h j hj]
theorem fwr_none_iff {q : Nat → Nat → Bool} {m n : Nat} : fwr q m n = none ↔ ∀ i, i < n → ∀ j, j < m → q j i = true := by
  unfold fwr
  rw [List.find?_range_eq_none]
  exact ⟨fun h i hi => allQ_iff.1 (by simpa using h i hi), fun h i hi => by simp [allQ_iff.2 (h i hi)]⟩
end Go.Proofs.YtlmdoiagjepmbaaGreatDoor.m11
