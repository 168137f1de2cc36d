/-
  Values and variables, plain: which may be, their bytes, their text, their order; what is put and got; what is taken of bytes; that there is one form.
-/
import Derived.Test.YtpbfdaijnndilaaGreatDoorGWire
import Derived.Test.YtpbfdaijnndilaaGreatDoorROrd
import Derived.Lib.ItoaNum
namespace Go.Proofs.YtpbfdaijnndilaaGreatDoor
open Go.RowKit

/-- a value: its kind, its number, its text -/
abbrev V9 := Int × Int × List UInt8
/-- a variable: its name, its value -/
abbrev Vr := ByteArray × V9
/-- may it be? -/
def mayV (v : V9) : Bool := if v.1 = 3 then decide (v.2.1 = 0 ∧ v.2.2.length ≤ 1024) else decide (v.2.2 = [] ∧ (v.1 = 1 ∨ (v.1 = 2 ∧ (v.2.1 = 0 ∨ v.2.1 = 1))))
def isL (c : UInt8) : Bool := decide (97 ≤ c.toNat ∧ c.toNat ≤ 122)
def isN (c : UInt8) : Bool := isL c || decide (48 ≤ c.toNat ∧ c.toNat ≤ 57) || decide (c.toNat = 95)
/-- the words that are no names -/
def wds : List (List UInt8) := [[97, 110, 100], [111, 114], [110, 111, 116], [116, 114, 117, 101], [102, 97, 108, 115, 101], [108, 101, 110]]
/-- is a text a name? -/
def namV (s : List UInt8) : Bool := !wds.contains s && decide (1 ≤ s.length ∧ s.length ≤ 32) && (s.take 1).all isL && s.all isN
def okV (x : Vr) : Bool := namV x.1.data.toList && mayV x.2
/-- names that rise behind a name -/
def rf : ByteArray → List Vr → Bool
  | _, [] => true
  | a, x :: t => (okV x && lt a x.1) && rf x.1 t
/-- variables that are right -/
def rgt (l : List Vr) : Bool := decide (l.length ≤ 16) && rf ⟨#[]⟩ l
/-- a value's bytes -/
def bytV (v : V9) : List UInt8 := if mayV v then v.1.toNat.toUInt8 :: (if v.1 = 3 then txt v.2.2 else Lib.uvarint (Lib.zigzag v.2.1)) else []
def rowV (x : Vr) : List UInt8 := txt x.1.data.toList ++ bytV x.2
/-- variables' bytes -/
def vbs (l : List Vr) : List UInt8 := if rgt l then Lib.uvarint l.length ++ (l.map rowV).flatten else []
/-- a digit of sixteen -/
def hxd (n : Nat) : UInt8 := if n < 10 then UInt8.ofNat (48 + n) else UInt8.ofNat (87 + n)
/-- a byte as it is shown -/
def qc (c : UInt8) : List UInt8 := if c.toNat = 34 ∨ c.toNat = 92 then [92, c] else if c.toNat < 32 ∨ 126 < c.toNat then [92, 120, hxd (c.toNat / 16), hxd (c.toNat % 16)] else [c]
def quo (s : List UInt8) : List UInt8 := 34 :: (s.flatMap qc ++ [34])
/-- a value's text -/
def shw (v : V9) : List UInt8 := if mayV v then (if v.1 = 3 then quo v.2.2 else if v.1 = 2 then (if v.2.1 = 1 then [116, 114, 117, 101] else [102, 97, 108, 115, 101]) else Lib.itoa v.2.1) else [63]
/-- is one less? -/
def lesV (a b : V9) : Bool := if a.1 = b.1 then (if a.2.1 = b.2.1 then lt (S a.2.2) (S b.2.2) else decide (a.2.1 < b.2.1)) else decide (a.1 < b.1)
/-- what Put comes to -/
def putV (l : List Vr) (k : ByteArray) (v : V9) : List Vr × Nat := if rgt l && namV k.data.toList && mayV v then (if has l k = false ∧ l.length = 16 then ([], 4) else (put l k v, 0)) else ([], 1)
/-- what Get comes to -/
def getV : List Vr → ByteArray → V9 × Bool
  | [], _ => ((0, 0, []), false)
  | x :: t, k => if x.1 = k then (x.2, true) else getV t k
/-- the value that begins bytes, and what is left -/
def tkV (l : List UInt8) : Option (V9 × List UInt8) := match l with
  | [] => none
  | c :: t => if c.toNat = 3 then (if (rdT 1024 t 0).2.2 = 0 then some ((3, 0, (rdT 1024 t 0).1), (rdT 1024 t 0).2.1) else none)
    else if (rdU t 0).2.2 = 0 ∧ mayV ((c.toNat : Int), Lib.unzigzag (rdU t 0).1, []) = true then some (((c.toNat : Int), Lib.unzigzag (rdU t 0).1, []), (rdU t 0).2.1) else none
/-- so many variables, behind those that there are -/
def tkN : Nat → List Vr → List UInt8 → Option (List Vr)
  | 0, acc, _ => some acc
  | n + 1, acc, l => if (rdT 32 l 0).2.2 = 0 then (match tkV (rdT 32 l 0).2.1 with
    | some (v, r) => tkN n (acc ++ [(S (rdT 32 l 0).1, v)]) r
    | none => none) else none
/-- the variables that begin bytes -/
def tkL (l : List UInt8) : Option (List Vr) := if (rdU l 0).2.2 = 0 ∧ (rdU l 0).1 ≤ 16 then (match tkN (rdU l 0).1 [] (rdU l 0).2.1 with
  | some r => if rgt r then some r else none
  | none => none) else none

/-! the last name -/
def lasN (a : ByteArray) (l : List Vr) : ByteArray := match l.getLast? with
  | some x => x.1
  | none => a
theorem lasN_cons (a : ByteArray) (x : Vr) (t : List Vr) : lasN a (x :: t) = lasN x.1 t := by
  unfold lasN
  cases t with
  | nil => rfl
  | cons y s => rw [List.getLast?_cons_cons, List.getLast?_eq_some_getLast (List.cons_ne_nil y s)]
theorem lasN_snoc (a : ByteArray) (l : List Vr) (x : Vr) : lasN a (l ++ [x]) = x.1 := by
  unfold lasN
  rw [List.getLast?_concat]
theorem rf_append : ∀ (l : List Vr) (a : ByteArray) (m : List Vr), rf a (l ++ m) = (rf a l && rf (lasN a l) m)
  | [], a, m => by simp [rf, lasN]
  | x :: t, a, m => by rw [List.cons_append, rf, rf, lasN_cons, rf_append t x.1 m]; simp only [Bool.and_assoc]
theorem rf_snoc (l : List Vr) (a : ByteArray) (x : Vr) : rf a (l ++ [x]) = (rf a l && (okV x && lt (lasN a l) x.1)) := by rw [rf_append]; simp [rf]
theorem rf_take {l : List Vr} {a : ByteArray} (h : rf a l = true) (i : Nat) : rf a (l.take i) = true := by
  have := List.take_append_drop i l
  rw [← this, rf_append] at h
  simp at h
  exact h.1
theorem rf_ok : ∀ {l : List Vr} {a : ByteArray}, rf a l = true → ∀ x ∈ l, okV x = true
  | y :: t, a, h, x, hx => by
    rw [rf] at h
    simp only [Bool.and_eq_true] at h
    rcases List.mem_cons.1 hx with rfl | hx
    · exact h.1.1
    · exact rf_ok h.2 x hx
theorem rf_lo : ∀ {l : List Vr} {a : ByteArray}, rf a l = true → ∀ x ∈ l, lt a x.1 = true
  | y :: t, a, h, x, hx => by
    rw [rf] at h
    simp only [Bool.and_eq_true] at h
    rcases List.mem_cons.1 hx with rfl | hx
    · exact h.1.2
    · exact lt_trans h.1.2 (rf_lo h.2 x hx)
theorem rf_rise : ∀ {l : List Vr} {a : ByteArray}, rf a l = true → Rise l
  | [], _, _ => List.Pairwise.nil
  | y :: t, a, h => by
    rw [rf] at h
    simp only [Bool.and_eq_true] at h
    exact List.pairwise_cons.2 ⟨fun x hx => rf_lo h.2 x hx, rf_rise h.2⟩
theorem rf_of : ∀ {l : List Vr} {a : ByteArray}, Rise l → (∀ x ∈ l, okV x = true) → (∀ x ∈ l, lt a x.1 = true) → rf a l = true
  | [], _, _, _, _ => rfl
  | y :: t, a, h, h1, h2 => by
    rw [rf]
    have h3 := List.pairwise_cons.1 h
    simp only [Bool.and_eq_true]
    exact ⟨⟨h1 y (by simp), h2 y (by simp)⟩, rf_of h3.2 (fun x hx => h1 x (by simp [hx])) (fun x hx => h3.1 x hx)⟩
theorem nam_ne {s : List UInt8} (h : namV s = true) : s ≠ [] := by rintro rfl; simp [namV] at h
theorem lt_nil {s : ByteArray} (h : s.data.toList ≠ []) : lt ⟨#[]⟩ s = true := by
  rw [lt_iff]
  cases hs : s.data.toList with
  | nil => exact absurd hs h
  | cons c t => simp
theorem okV_lt {x : Vr} (h : okV x = true) : lt ⟨#[]⟩ x.1 = true := by
  unfold okV at h
  simp only [Bool.and_eq_true] at h
  exact lt_nil (nam_ne h.1)
theorem rgt_iff {l : List Vr} : rgt l = true ↔ l.length ≤ 16 ∧ Rise l ∧ ∀ x ∈ l, okV x = true := by
  unfold rgt
  simp only [Bool.and_eq_true, decide_eq_true_eq]
  refine ⟨fun h => ⟨h.1, rf_rise h.2, rf_ok h.2⟩, fun h => ⟨h.1, rf_of h.2.1 h.2.2 (fun x hx => okV_lt (h.2.2 x hx))⟩⟩
theorem may_len {v : V9} (h : mayV v = true) : v.2.2.length ≤ 1024 := by
  unfold mayV at h
  split at h
  · exact (of_decide_eq_true h).2
  · rw [(of_decide_eq_true h).1]; simp
theorem nam_len {s : List UInt8} (h : namV s = true) : s.length ≤ 32 := by
  unfold namV at h
  simp only [Bool.and_eq_true, decide_eq_true_eq] at h
  exact h.1.1.2.2
/-- numbers and texts as they may come in -/
def Vk (v : V9) : Prop := (-9223372036854775808 ≤ v.1 ∧ v.1 ≤ 9223372036854775807) ∧ (-9223372036854775808 ≤ v.2.1 ∧ v.2.1 ≤ 9223372036854775807) ∧ v.2.2.length ≤ 140737488355328
theorem bytV_len {v : V9} (hv : Vk v) : (bytV v).length ≤ 1100 := by
  obtain ⟨-, ⟨h1, h2⟩, -⟩ := hv
  unfold bytV
  split
  · rename_i h
    have := may_len h
    split
    · have h2 := Lib.uvarint_length64 (x := v.2.2.length) (by omega)
      simp [txt]; omega
    · have h3 := Lib.uvarint_length64 (Lib.zigzag_lt h1 h2)
      simp; omega
  · simp
end Go.Proofs.YtpbfdaijnndilaaGreatDoor
