/-
  Expressions as plain things: tokens, parts, and what package expr's calls come to.
-/
import Derived.Test.YtpbfdaijnndilaaGreatDoorV9Pure
namespace Go.Proofs.YtpbfdaijnndilaaGreatDoor.x10
open Go.RowKit Go.Shelf Go.Sort
open Go.Lib hiding intOf

/-- a part: operator, A, B, value -/
abbrev P10 := Int × Int × Int × V9
/-- a token: kind, place, text, value -/
structure Tk where
  kind : Int
  at' : Nat
  s : List UInt8
  v : V9
def v0 : V9 := (0, 0, [])
def kB (c : UInt8) : Bool := c.toNat == 32 || c.toNat == 9 || c.toNat == 10
def kD (c : UInt8) : Bool := decide (48 ≤ c.toNat) && decide (c.toNat ≤ 57)
def kA (c : UInt8) : Bool := decide (97 ≤ c.toNat) && decide (c.toNat ≤ 122)
def kW (c : UInt8) : Bool := kA c || kD c || c.toNat == 95
def kS (c : UInt8) : Bool := decide (32 ≤ c.toNat) && decide (c.toNat ≤ 126)
/-- how many bytes at the head are so -/
def spn (p : UInt8 → Bool) (l : List UInt8) : Nat := (l.takeWhile p).length
def hexV (c : UInt8) : Option Nat := if kD c then some (c.toNat - 48) else if 97 ≤ c.toNat ∧ c.toNat ≤ 102 then some (c.toNat - 87) else none
/-- a byte of a text, and how many bytes it takes; none: 0 -/
def rdB1 : List UInt8 → UInt8 × Nat
  | 92 :: 34 :: _ => (34, 2)
  | 92 :: 92 :: _ => (92, 2)
  | 92 :: 120 :: h :: l :: _ => match hexV h, hexV l with
    | some a, some b => if kS (UInt8.ofNat (16 * a + b)) then (0, 0) else (UInt8.ofNat (16 * a + b), 4)
    | _, _ => (0, 0)
  | c :: _ => if kS c && c.toNat != 34 && c.toNat != 92 then (c, 1) else (0, 0)
  | [] => (0, 0)
/-- the bytes of a text, up to what is none: what was said, what is left -/
def txs : Nat → List UInt8 → List UInt8 → List UInt8 × List UInt8
  | 0, acc, l => (acc, l)
  | n + 1, acc, l => if (rdB1 l).2 = 0 then (acc, l) else txs n (acc ++ [(rdB1 l).1]) (l.drop (rdB1 l).2)
def mks : List (List UInt8) := [[61, 61], [33, 61], [60, 61], [62, 61], [60], [62], [40], [41], [45], [43], [42], [47], [37]]
/-- the first mark that begins a text -/
def mkOf (l : List UInt8) : Option (List UInt8) := mks.find? (fun m => m.isPrefixOf l)
/-- a row of digits as a number -/
def numD (l : List UInt8) : Nat := l.foldl (fun a c => a * 10 + (c.toNat - 48)) 0
/-- an outcome: a thing, or what is wrong and where -/
inductive Ot (α : Type) where
  | ok (x : α)
  | no (e : Int) (at' : Int)
  | out
/-- the token that a text's rest begins with (no blank ahead), and how many bytes it takes -/
def tok (b : Nat) (l : List UInt8) : Ot (Tk × Nat) :=
  match l with
  | [] => .ok (⟨0, b, [], v0⟩, 0)
  | c :: _ =>
    if kD c then
      let r := l.takeWhile kD
      if numD r ≤ 9223372036854775807 ∧ ¬ (c = 48 ∧ r ≠ [48]) then .ok (⟨1, b, [], (1, (numD r : Int), [])⟩, r.length) else .no 10 b
    else if kA c then
      let r := l.takeWhile kW
      if namV r || wds.contains r then .ok (⟨3, b, r, v0⟩, r.length) else .no 10 b
    else if c = 34 then
      let r := txs l.length [] (l.drop 1)
      match r.2 with
      | 34 :: q => .ok (⟨2, b, [], (3, 0, r.1)⟩, l.length - q.length)
      | _ => .no 10 b
    else match mkOf l with
      | some m => .ok (⟨4, b, m, v0⟩, m.length)
      | none => .no 10 b
/-- a reader: the token that has come, the place behind it, how deep, the parts -/
structure Rs where
  now : Tk
  beh : Nat
  nest : Nat
  parts : List P10
def nxt (s : List UInt8) (st : Rs) : Ot Rs :=
  let b := st.beh + spn kB (s.drop st.beh)
  match tok b (s.drop b) with
  | .ok (t, n) => .ok { st with now := t, beh := b + n }
  | .no e a => .no e a
  | .out => .out
def Ot.bind {α β : Type} (x : Ot α) (f : α → Ot β) : Ot β := match x with
  | .ok a => f a
  | .no e a => .no e a
  | .out => .out
def putP (p : P10) (st : Rs) : Ot Rs := if st.parts.length = 100 then .no 13 st.now.at' else .ok { st with parts := st.parts ++ [p] }
def lasP (st : Rs) : Int := (st.parts.length : Int) - 1
/-- how operators are written, and how tightly they bind -/
def sgs : List (List UInt8 × Int) := [([], 0), ([], 6), ([], 6), ([45], 6), ([110, 111, 116], 6), ([108, 101, 110], 6), ([42], 5), ([47], 5), ([37], 5), ([43], 4), ([45], 4), ([61, 61], 3), ([33, 61], 3), ([60], 3), ([60, 61], 3), ([62], 3), ([62, 61], 3), ([97, 110, 100], 2), ([111, 114], 1)]
def lvl (op : Nat) : Int := (sgs[op]?.getD ([], 0)).2
def twoH (t : List UInt8) : Nat := match (List.range 13).find? (fun i => (sgs[6 + i]?.getD ([], 0)).1 == t) with
  | some i => 6 + i
  | none => 0
def truV (b : Bool) : V9 := (2, if b then 1 else 0, [])
def leaf (s : List UInt8) (op : Int) (v : V9) (st : Rs) : Ot Rs := (nxt s st).bind (putP (op, -1, -1, v))
def must (s m : List UInt8) (st : Rs) : Ot Rs := if st.now.s = m then nxt s st else .no 10 st.now.at'
mutual
def opds (s : List UInt8) : Nat → Int → Rs → Ot Rs
  | 0, _, _ => .out
  | n + 1, lv, st => (opd s n st).bind (fun st => more s n lv (lasP st) st)
/-- operators of that level, and what stands behind them -/
def more (s : List UInt8) : Nat → Int → Int → Rs → Ot Rs
  | 0, _, _, _ => .out
  | n + 1, lv, a, st =>
    let op := twoH st.now.s
    if op = 0 ∨ lvl op < lv then .ok st else
    (nxt s st).bind fun st => (opds s n (lvl op + 1) st).bind fun st => (putP (op, a, lasP st, v0) st).bind fun st => more s n lv (lasP st) st
def opd (s : List UInt8) : Nat → Rs → Ot Rs
  | 0, _ => .out
  | n + 1, st =>
    if st.nest = 20 then .no 13 st.now.at' else
    let st1 := { st with nest := st.nest + 1 }
    (if st.now.kind = 1 ∨ st.now.kind = 2 then leaf s 1 st.now.v st1
     else if st.now.kind = 3 then aftW s n st.now.s st1
     else if st.now.kind = 4 then aftM s n st.now.s st1
     else .no 10 st.now.at').bind fun st2 => .ok { st2 with nest := st2.nest - 1 }
def aftW (s : List UInt8) : Nat → List UInt8 → Rs → Ot Rs
  | 0, _, _ => .out
  | n + 1, w, st =>
    if w = [97, 110, 100] ∨ w = [111, 114] then .no 10 st.now.at'
    else if w = [116, 114, 117, 101] ∨ w = [102, 97, 108, 115, 101] then leaf s 1 (truV (w == [116, 114, 117, 101])) st
    else if w = [110, 111, 116] then (nxt s st).bind fun st => (opd s n st).bind fun st => putP (4, lasP st, -1, v0) st
    else if w = [108, 101, 110] then (nxt s st).bind fun st => (inBr s n st).bind fun st => putP (5, lasP st, -1, v0) st
    else leaf s 2 (3, 0, w) st
def aftM (s : List UInt8) : Nat → List UInt8 → Rs → Ot Rs
  | 0, _, _ => .out
  | n + 1, m, st =>
    if m = [40] then inBr s n st
    else if m = [45] then (nxt s st).bind fun st => (opd s n st).bind fun st => putP (3, lasP st, -1, v0) st
    else .no 10 st.now.at'
def inBr (s : List UInt8) : Nat → Rs → Ot Rs
  | 0, _ => .out
  | n + 1, st => (must s [40] st).bind fun st => (opds s n 1 st).bind fun st => must s [41] st
end
def whol (s : List UInt8) (n : Nat) : Ot (List P10) :=
  (nxt s ⟨⟨0, 0, [], v0⟩, 0, 0, []⟩).bind fun st => (opds s n 1 st).bind fun st => if st.now.kind = 0 then .ok st.parts else .no 10 st.now.at'
/-- what Parse comes to: parts, error, place -/
def prs (n : Nat) (s : List UInt8) : Option (List P10 × Int × Int) :=
  if 512 < s.length then some ([], 13, 0) else match whol s n with
  | .ok x => some (x, 0, 0)
  | .no e a => some ([], e, a)
  | .out => none
theorem prs_a : prs 40 [97, 32, 43, 32, 49, 32, 42, 32, 50, 32, 61, 61, 32, 55] = some ([(2, -1, -1, 3, 0, [97]), (1, -1, -1, 1, 1, []), (1, -1, -1, 1, 2, []), (6, 1, 2, 0, 0, []), (9, 0, 3, 0, 0, []), (1, -1, -1, 1, 7, []), (11, 4, 5, 0, 0, [])], 0, 0) := by kernel_rfl
theorem prs_b : prs 40 [49, 32, 43] = some ([], 10, 3) := by kernel_rfl
end Go.Proofs.YtpbfdaijnndilaaGreatDoor.x10
